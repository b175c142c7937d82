/- RollTells: its walk. -/
import Derived.Test.YtcobenflfnmhgaaLaw11b
import Derived.Test.YtcobenflfnmhgaaOrd3
import Derived.WalkKit
import Derived.WalkSpells
import Derived.WalkLawsBesides
import Derived.Lib.Hide
import Derived.IntWalk
import Derived.Laws.StructEq
import Derived.Deep.LoopGhost
import Derived.Deep.QuietTactic
import Derived.BigQuiet
namespace Go.Proofs.Ytcobenflfnmhgaa
open Go.RowKit
theorem bl_c {c y c' y' : Int} (h : Bl c y c' y') : c ≤ c' := by unfold Bl at h; omega

theorem fis_sm {S S' : Int → Int → Int} {q : Nat} {f : Nat → Wy} (h : FIs S S' q f) (m1 : ∀ c y, Mon (S c y)) (m2 : ∀ c y, Mon (S' c y)) {j : Nat} (hj : j < q) : Mon (f j).o ∧ Mon (f j).k ∧ (f j).m = (f j).k - (f j).o ∧ Small (f j) := by
  have a1 : Mon (f j).o := by rw [h.op j hj]; exact m1 _ _
  have a2 : Mon (f j).k := by rw [h.cl j hj]; exact m2 _ _
  have a3 := h.mv j hj
  refine ⟨a1, a2, a3, ?_⟩
  unfold Mon at a1 a2
  unfold Small
  omega
theorem fis_tm {S S' : Int → Int → Int} {q : Nat} {f : Nat → Wy} (h : FIs S S' q f) (m1 : ∀ c y, Mon (S c y)) (m2 : ∀ c y, Mon (S' c y)) {k : Nat} (hk : k ≤ q) : -200000000000000 ≤ tot (fun j => (f j).m) k ∧ tot (fun j => (f j).m) k ≤ 200000000000000 := by
  have h1 := tot_bd (fun j => (f j).o) k fun j hj => by rw [h.op j (by omega)]; exact m1 _ _
  have h2 := tot_bd (fun j => (f j).k) k fun j hj => by rw [h.cl j (by omega)]; exact m2 _ _
  have e : tot (fun j => (f j).m) k = tot (fun j => (f j).k) k - tot (fun j => (f j).o) k := by
    rw [← tot_sub]
    exact tot_ext k fun j hj => h.mv j (by omega)
  have := h.le
  omega

set_option maxHeartbeats 8000000 in
set_option maxRecDepth 100000 in
theorem rollTells_walk (a0 : Option Addr) (len0 cap0 : Nat) (z0 : List Int) (a1 : Option Addr) (len1 cap1 : Nat) (z1 : List Int) (w : World) (w0 : IsRow .i64 w a0 len0 cap0 z0) (w1 : IsRow .i64 w a1 len1 cap1 z1) :
    Calls Try.prog 5 #[.slice a0 len0 cap0, .slice a1 len1 cap1] w fun e w' => e = .returned (.bool true) ∧ Below w.heap.size w w' := by
  have R0 := Lib.hid w0
  have R1 := Lib.hid w1
  clear w0 w1
  go_enter Try.func5, Try.ntmps5
  go_wp2_with fail
  refine (preg_rx a0 len0 cap0 z0 w R0.out).mono ?_
  rintro e w1 ⟨sx, Ax, nx, cx, Sx, gx, rfl, hx, hb1⟩
  have X1 := Lib.hid hx
  have B1 := Lib.hid hb1
  clear hx hb1
  go_wp2_with fail
  refine (preg_rx a1 len1 cap1 z1 w1 (R1.out.below B1.out)).mono ?_
  rintro e w2 ⟨sy, Ay, ny, cy, Sy, gy, rfl, hy, hb2⟩
  have X := Lib.hid (X1.out.below hb2)
  have Y := Lib.hid hy
  have B2 := Lib.hid (B1.out.trans (hb2.mono B1.out.size))
  clear hy hb2 X1 B1
  have PXY := Lib.hid fun wz (k : Below w2.heap.size w2 wz) => rx_fwd (X.out.below k) (Y.out.below k)
  have MXY := Lib.hid fun wz (k : Below w2.heap.size w2 wz) => rx_mvd (X.out.below k) (Y.out.below k)
  have x0 := X.out.cell
  have y0 := Y.out.cell
  have BB0 : Hid (Below w2.heap.size w2 w2.drew) := Lib.hid (below_drew w2)
  have Kx : Hid (w2.drew.cell? ⟨sx, 0, none⟩ = some (.slice Ax nx cx)) := Lib.hid x0
  have Ky : Hid (w2.drew.cell? ⟨sy, 0, none⟩ = some (.slice Ay ny cy)) := Lib.hid y0
  go_wp2
  go_region_held3 (fun w' => w'.cell? ⟨sx, 0, none⟩ = some (.slice Ax nx cx) ∧ w'.cell? ⟨sy, 0, none⟩ = some (.slice Ay ny cy)) (first | go_keep) (first | (go_at_call 9; (with_reducible refine (PXY.out _ BB0.out).mono ?_); rintro e v1 ⟨D1, q1, d1, f1, rfl, ho1, hf1, hb1⟩; have x1 := cell_keep Kx.out hb1; have y1 := cell_keep Ky.out hb1; have BB1 := Lib.hid (BB0.out.trans (hb1.mono BB0.out.size)); have OO1 := Lib.hid ho1; have HF1 := Lib.hid hf1; clear ho1 hf1 hb1))
  have WXY := Lib.hid fun wz (k : Below w2.heap.size w2 wz) => rfwd (c := cx) (c' := cy) (X.out.below k).row (Y.out.below k).row X.out.iv Y.out.iv
  have BB2 : Hid (Below w2.heap.size w2 v1.drew) := Lib.hid BB1.out.drew
  have Kx2 : Hid (v1.drew.cell? ⟨sx, 0, none⟩ = some (.slice Ax nx cx)) := Lib.hid x1
  have Ky2 : Hid (v1.drew.cell? ⟨sy, 0, none⟩ = some (.slice Ay ny cy)) := Lib.hid y1
  clear x0 y0 Kx Ky BB0
  go_wp2
  go_region_held3 (fun w' => w'.cell? ⟨sx, 0, none⟩ = some (.slice Ax nx cx) ∧ w'.cell? ⟨sy, 0, none⟩ = some (.slice Ay ny cy)) (first | go_keep) (first | (go_at_call 16; (with_reducible refine (WXY.out _ BB2.out).mono ?_); rintro e v2 ⟨D2, q2, f2, rfl, ho2, hf2, hb2⟩; have x2 := cell_keep Kx2.out hb2; have y2 := cell_keep Ky2.out hb2; have BB3 := Lib.hid (BB2.out.trans (hb2.mono BB2.out.size)); have OO2 := Lib.hid ho2; have HF2 := Lib.hid hf2; have HB2 := Lib.hid hb2; clear ho2 hf2 hb2))
  obtain ⟨eq, ef⟩ := HF1.out.uniq HF2.out
  subst eq
  have AT1 := Lib.hid ((own_at OO1.out).below (Below.trans (below_drew v1) (HB2.out.mono (Nat.le_refl _))))
  obtain ⟨A2', c2', rfl, hc2, hm2, _⟩ := OO2.out.form
  have AT2 := Lib.hid ((own_at OO2.out).ext fun j hj => (ef j hj).symm)
  have HX := Lib.hid HF1.out
  have hsm := Lib.hid fun j (hj : j < q1) => fis_sm HF1.out X.out.iv.mon Y.out.iv.mon hj
  have hq9 := HF1.out.le
  obtain ⟨_, _, e, hd1, hd2, _⟩ := OO1.out.form
  injection e with e1 _ e3
  subst e1 e3
  have PC := Lib.hid fun wz (k : Below v2.heap.size v2 wz) => pcls (c := d1) (AT1.out.below k) (by omega) (fun j hj => (hsm.out j hj).2.2.2) ⟨hd1, hd2⟩
  have KX := Lib.hid x2
  have KY := Lib.hid y2
  clear Kx2 Ky2 x1 y1 x2 y2 BB1 BB2 ef HF2 OO1 OO2 HB2 WXY PXY hc2 hm2
  have HQ9 := Lib.hid hq9
  clear hd1 hd2 hq9
  go_wp2
  obtain ⟨i0, hi, hz0, hz1, hz2⟩ := info_parts rrow_info
  go_loopg [9, 10, 44] q1 (fun gh s9 s10 s44 wr => ∃ (k p : Nat) (z : Nat → Wy), k ≤ q1 ∧ gh = q1 - k ∧ s44 = .int .i64 k ∧ s9 = .int .i64 (tot (fun j => (f1 j).m) k) ∧ OwnR we 5 wr 36 v2.heap.size s10 p z ∧ CIs k f1 p z ∧ p ≤ k ∧ Below v2.heap.size v2 wr)
  case atStart => exact ⟨0, 0, fun _ => ⟨0, 0, 0, 0, 0⟩, Nat.zero_le _, rfl, rfl, rfl, OwnR.nil _ _ _ _ _ _, CIs.zero _ _, Nat.le_refl _, Below.refl _ _⟩
  case round =>
    obtain ⟨k, p, z, hk, hgk, rfl, rfl, ho, hci, hpk, hb⟩ := hrel
    have HGK := Lib.hid hgk
    have HB := Lib.hid hb
    have HC := Lib.hid hci
    have O10 := Lib.hid ho
    clear hgk hb hci ho
    by_cases hlt : k < q1
    · obtain ⟨mo, mk, em, _⟩ := hsm.out k hlt
      obtain ⟨b, off, rfl, hbl, c0, c1, c2, c3, c4⟩ := (AT1.out.below HB.out).five hlt
      obtain ⟨b', off', rfl, hbl', c0', c1', c2', c3', c4'⟩ := (AT2.out.below HB.out).five hlt
      obtain ⟨x, hx⟩ : ∃ x, f1 k = x := ⟨_, rfl⟩
      rw [hx] at c0 c1 c2 c3 c4 c0' c1' c2' c3' c4' mo mk em
      have EX := Lib.hid hx
      have k1 : (k : Int) < (q1 : Int) := by omega
      have EM := Lib.hid em
      clear hx em
      obtain ⟨T, hT⟩ : ∃ T, tot (fun j => (f1 j).m) k = T := ⟨_, rfl⟩
      rw [hT]
      have HT := Lib.hid hT
      clear hT
      have hwT : IntKind.i64.wrap (T + x.m) = T + x.m := IntWalk.i64_in _ (by
        have h1 := fis_tm HX.out X.out.iv.mon Y.out.iv.mon (k := k + 1) (by omega)
        rw [tot, EX.out, HT.out] at h1
        omega)
      have HTS : Hid (T + x.m = tot (fun j => (f1 j).m) (k + 1)) := Lib.hid (by rw [tot, EX.out, HT.out])
      have hwk : IntKind.i64.wrap ((k : Int) + 1) = (k : Int) + 1 := IntWalk.i64_in _ (by have := HQ9.out; omega)
      have HNB : Hid (∀ j, j < p → (z j).c ≤ x.c) := Lib.hid fun j hj => by
        obtain ⟨i, hi, e⟩ := HC.out.has j hj
        rw [← e, ← EX.out]
        exact bl_c (HX.out.asc (i := i) (j := k) hi hlt)
      go_wp2
      go_big_quiet (fail)
      obtain ⟨n1, rfl⟩ : ∃ n1, n1 = nq := ⟨_, rfl⟩
      rcases Nat.eq_zero_or_pos p with hp | hp
      · obtain rfl : p = 0 := hp
        obtain ⟨A5, c5, rfl, hc5, hm5, _⟩ := O10.out.form
        have HC5 := Lib.hid (And.intro hc5 hm5)
        clear hc5 hm5
        have hlt0 : ∀ j, j < 0 → (z j).c < (f1 k).c := fun j hj => by omega
        have HPU := Lib.hid (HC.out.push hlt0)
        rw [EX.out] at HPU
        clear hlt0
        go_wp2
        go_big_quiet (fail)
        obtain ⟨w8, hw8⟩ : ∃ w8, w8 = (wr.alloc (.cells #[.int .i64 x.c, .int .i64 x.y, .int .i64 x.o, .int .i64 x.m, .int .i64 x.k] 36)).drewN (n1 + nq) := ⟨_, rfl⟩; have HB8 : Hid (Below wr.heap.size wr w8) := Lib.hid (by rw [hw8]; exact below_drewN ((Below.refl _ _).alloc (Nat.le_refl _) _) _); have HS8 : Hid (w8.heap.size = wr.heap.size + 1) := Lib.hid (by rw [hw8]; simp); have HO8 := Lib.hid ((O10.out.below HB8.out).alloc (.cells (we ⟨x.c, -1, x.o, x.m, x.k⟩).toArray 36)); have HC8 := Lib.hid (rec_lit w8 (we ⟨x.c, -1, x.o, x.m, x.k⟩) 36 (wr.heap.size + 1) HS8.out); have HBW : Hid (Below v2.heap.size v2 (w8.alloc (.cells (we ⟨x.c, -1, x.o, x.m, x.k⟩).toArray 36))) := Lib.hid ((HB.out.trans (HB8.out.mono HB.out.size)).alloc (by have := HB.out.size; have := HS8.out; omega) _); have HBZ := Lib.hid HBW.out.size
        go_wp2_with (at_builtin; rw [← hw8]; (refine wpList_push_r rfl (.tmp 108) (.tmp 118) rfl rrow_type hi hz0 hz1 hz2 (by decide) rfl (by decide) we_len we_one v2 v2.heap.size 0 (wr.heap.size + 1) _ z ⟨x.c, -1, x.o, x.m, x.k⟩ rfl rfl HC8.out HO8.out (by omega) HBW.out HBZ.out _ rfl ?_; intro b9 c9 w9 ho9 hb9 hg9 hat9; have HO9 := Lib.hid ho9; have HB9 := Lib.hid hb9; have HK9 := Lib.hid hg9; clear ho9 hb9 hg9 hat9))
        go_roundg (q1 - (k + 1))
        case measure => have := HGK.out; omega
        case rel => exact ⟨k + 1, 1, _, by omega, rfl, by go_num, by rw [HTS.out], HO9.out, HPU.out, by omega, HB9.out⟩
      · obtain ⟨p1, rfl⟩ : ∃ p1, p = p1 + 1 := ⟨p - 1, by omega⟩
        obtain ⟨b5, c5, rfl, hc5, hm5, hbb5, hb5, hcc5, hfz5⟩ := O10.out.some we_len hp
        obtain ⟨y, hy⟩ : ∃ y, z p1 = y := ⟨_, rfl⟩
        have d0 := hcc5 p1 (by omega) 0 _ rfl
        have d1' := hcc5 p1 (by omega) 1 _ rfl
        have d2 := hcc5 p1 (by omega) 2 _ rfl
        have d3 := hcc5 p1 (by omega) 3 _ rfl
        have d4 := hcc5 p1 (by omega) 4 _ rfl
        rw [hy] at d0 d1' d2 d3 d4
        rw [Nat.add_zero] at d0
        have t2 := hfz5 (p1 * 5 + 2)
        have t3 := hfz5 (p1 * 5 + 3)
        have t4 := hfz5 (p1 * 5 + 4)
        have g1 : (0 : Int) ≤ (p1 : Int) := by omega
        have g2 : (p1 : Int) < ((p1 + 1 : Nat) : Int) := by omega
        have g3 : (p1 : Int) < (p1 : Int) + 1 := by omega
        have g4 : p1 < p1 + 1 := by omega
        have g5 : p1 ≤ 1000000 := by have := HQ9.out; omega
        have HP2 : Hid (p1 + 1 ≤ 1000000) := Lib.hid (by have := HQ9.out; omega)
        have HB5 := Lib.hid hbb5
        have HL5 := Lib.hid hb5
        have HPK := Lib.hid hpk
        have HY := Lib.hid hy
        clear hcc5 hfz5 hbb5 hc5 hm5 hy hp hpk
        by_cases hcc : y.c = x.c
        · have p2 : (y.c == x.c) = true := by simpa using hcc
          have HCC : Hid ((z p1).c = (f1 k).c) := Lib.hid (by rw [HY.out, EX.out]; exact hcc)
          have HAD := Lib.hid (HC.out.add HCC.out)
          have bd : ∀ (F : Wy → Int), (∀ j, j < q1 → -1000000000000 ≤ F (f1 j) ∧ F (f1 j) ≤ 1000000000000) → F (z p1) = cs F f1 (z p1).c k → IntKind.i64.wrap (F (z p1) + F (f1 k)) = F (z p1) + F (f1 k) := fun F hF e => by
            have h1 := cs_bd (F := F) (f := f1) (B := 1000000000000) (c := (z p1).c) (k + 1) (fun j hj => hF j (by omega)) (by decide)
            rw [cs_succ, if_pos HCC.out.symm, ← e] at h1
            have := HQ9.out
            exact IntWalk.i64_in _ (by omega)
          have hwo := bd (·.o) (fun j hj => (hsm.out j hj).2.2.2.1) (HC.out.so p1 (by omega))
          have hwm := bd (·.m) (fun j hj => (hsm.out j hj).2.2.2.2.1) (HC.out.sm p1 (by omega))
          have hwz := bd (·.k) (fun j hj => (hsm.out j hj).2.2.2.2.2) (HC.out.sk p1 (by omega))
          rw [HY.out, EX.out] at hwo hwm hwz
          clear hcc bd
          go_wp2
          go_big_quiet (fail)
          go_wp2
          obtain ⟨wq, hwq⟩ : ∃ wq, wq = (wr.alloc (.cells #[.int .i64 x.c, .int .i64 x.y, .int .i64 x.o, .int .i64 x.m, .int .i64 x.k] 36)).drewN (n1 + nq) := ⟨_, rfl⟩
          have HB8 : Hid (Below wr.heap.size wr wq) := Lib.hid (by rw [hwq]; exact below_drewN ((Below.refl _ _).alloc (Nat.le_refl _) _) _)
          have r2 : wq.cell? ⟨wr.heap.size, 2, none⟩ = some (.int .i64 x.o) := by rw [hwq]; exact rec_lit wr (we x) 36 wr.heap.size rfl 2 _ rfl
          have r3 : wq.cell? ⟨wr.heap.size, 3, none⟩ = some (.int .i64 x.m) := by rw [hwq]; exact rec_lit wr (we x) 36 wr.heap.size rfl 3 _ rfl
          have r4 : wq.cell? ⟨wr.heap.size, 4, none⟩ = some (.int .i64 x.k) := by rw [hwq]; exact rec_lit wr (we x) 36 wr.heap.size rfl 4 _ rfl
          have q2 := cell_keep d2 HB8.out
          have q3 := cell_keep d3 HB8.out
          have q4 := cell_keep d4 HB8.out
          have f2 := frz_keep t2 HL5.out HB8.out
          have f3 := frz_keep t3 HL5.out HB8.out
          have f4 := frz_keep t4 HL5.out HB8.out
          have hne : ¬ (b5 = wr.heap.size) := by have := HL5.out; omega
          have EE : Hid (∀ (W : World) (o : Nat) (v : Value), (W.cell? ⟨wr.heap.size, 2, none⟩ = some (.int .i64 x.o) ∧ W.cell? ⟨wr.heap.size, 3, none⟩ = some (.int .i64 x.m) ∧ W.cell? ⟨wr.heap.size, 4, none⟩ = some (.int .i64 x.k)) → ((W.setCell ⟨b5, o, none⟩ v).cell? ⟨wr.heap.size, 2, none⟩ = some (.int .i64 x.o) ∧ (W.setCell ⟨b5, o, none⟩ v).cell? ⟨wr.heap.size, 3, none⟩ = some (.int .i64 x.m) ∧ (W.setCell ⟨b5, o, none⟩ v).cell? ⟨wr.heap.size, 4, none⟩ = some (.int .i64 x.k))) := Lib.hid fun W o v h =>
            ⟨(World.cell?_setCell_far W ⟨b5, o, none⟩ ⟨wr.heap.size, 2, none⟩ v hne).trans h.1, (World.cell?_setCell_far W ⟨b5, o, none⟩ ⟨wr.heap.size, 3, none⟩ v hne).trans h.2.1, (World.cell?_setCell_far W ⟨b5, o, none⟩ ⟨wr.heap.size, 4, none⟩ v hne).trans h.2.2⟩
          rw [← hwq]
          clear hwq hne t2 t3 t4 d2 d3 d4
          refine wp_region_noPanic ?_
          refine AnyUp.begin (C := fun w' => w'.cell? ⟨b5, p1 * 5 + 2, none⟩ = some (.int .i64 y.o) ∧ w'.cell? ⟨b5, p1 * 5 + 3, none⟩ = some (.int .i64 y.m) ∧ w'.cell? ⟨b5, p1 * 5 + 4, none⟩ = some (.int .i64 y.k)) (E := fun w' => w'.cell? ⟨wr.heap.size, 2, none⟩ = some (.int .i64 x.o) ∧ w'.cell? ⟨wr.heap.size, 3, none⟩ = some (.int .i64 x.m) ∧ w'.cell? ⟨wr.heap.size, 4, none⟩ = some (.int .i64 x.k)) (q := 26) (by kernel_rfl) ?_
          have scd : (wq.drew.cell? ⟨wr.heap.size, 2, none⟩ = some (.int .i64 x.o) ∧ wq.drew.cell? ⟨wr.heap.size, 3, none⟩ = some (.int .i64 x.m) ∧ wq.drew.cell? ⟨wr.heap.size, 4, none⟩ = some (.int .i64 x.k)) ∧ (wq.drew.cell? ⟨b5, p1 * 5 + 2, none⟩ = some (.int .i64 y.o) ∧ wq.drew.cell? ⟨b5, p1 * 5 + 3, none⟩ = some (.int .i64 y.m) ∧ wq.drew.cell? ⟨b5, p1 * 5 + 4, none⟩ = some (.int .i64 y.k)) := ⟨⟨r2, r3, r4⟩, q2, q3, q4⟩
          refine AnyUp.take (i := 0) (v := ?_) (by simp only [List.getElem?_toArray, List.getElem?_cons_zero]; rfl) (by kernel_rfl) (by kernel_rfl) (by kernel_rfl) (by kernel_rfl) (by kernel_rfl) (fun _ _ _ h => h) (Or.inl ⟨by rfl, ?_⟩) scd ?_
          rotate_left
          · intro w' hw'; (try dsimp only at hw'); go_simp <;> with_reducible rfl
          try simp only [Act.put, List.setIfInBounds_toArray, List.set_cons_zero, List.set_cons_succ]
          refine AnyUp.take (i := 3) (v := ?_) (by simp only [List.getElem?_toArray, List.getElem?_cons_succ, List.getElem?_cons_zero]; rfl) (by kernel_rfl) (by kernel_rfl) (by kernel_rfl) (by kernel_rfl) (by kernel_rfl) (fun _ _ _ h => h) (Or.inl ⟨by rfl, ?_⟩) scd ?_
          rotate_left
          · intro w' hw'; (try dsimp only at hw'); go_simp <;> with_reducible rfl
          try simp only [Act.put, List.setIfInBounds_toArray, List.set_cons_zero, List.set_cons_succ]
          refine AnyUp.take (i := 4) (v := ?_) (by simp only [List.getElem?_toArray, List.getElem?_cons_succ, List.getElem?_cons_zero]; rfl) (by kernel_rfl) (by kernel_rfl) (by kernel_rfl) (by kernel_rfl) (by kernel_rfl) (fun _ _ _ h => h) (Or.inl ⟨by rfl, ?_⟩) scd ?_
          rotate_left
          · intro w' hw'; (try dsimp only at hw'); go_simp <;> with_reducible rfl
          try simp only [Act.put, List.setIfInBounds_toArray, List.set_cons_zero, List.set_cons_succ]
          refine AnyUp.take (i := 5) (v := ?_) (by simp only [List.getElem?_toArray, List.getElem?_cons_succ, List.getElem?_cons_zero]; rfl) (by kernel_rfl) (by kernel_rfl) (by kernel_rfl) (by kernel_rfl) (by kernel_rfl) (fun _ _ _ h => h) (Or.inl ⟨by rfl, ?_⟩) scd ?_
          rotate_left
          · intro w' hw'; (try dsimp only at hw'); go_simp <;> with_reducible rfl
          try simp only [Act.put, List.setIfInBounds_toArray, List.set_cons_zero, List.set_cons_succ]
          refine AnyUp.take (i := 6) (v := ?_) (by simp only [List.getElem?_toArray, List.getElem?_cons_succ, List.getElem?_cons_zero]; rfl) (by kernel_rfl) (by kernel_rfl) (by kernel_rfl) (by kernel_rfl) (by kernel_rfl) (fun _ _ _ h => h) (Or.inl ⟨by rfl, ?_⟩) scd ?_
          rotate_left
          · intro w' hw'; (try dsimp only at hw'); go_simp <;> with_reducible rfl
          try simp only [Act.put, List.setIfInBounds_toArray, List.set_cons_zero, List.set_cons_succ]
          refine AnyUp.take (i := 7) (v := ?_) (by simp only [List.getElem?_toArray, List.getElem?_cons_succ, List.getElem?_cons_zero]; rfl) (by kernel_rfl) (by kernel_rfl) (by kernel_rfl) (by kernel_rfl) (by kernel_rfl) (fun _ _ _ h => h) (Or.inl ⟨by rfl, ?_⟩) scd ?_
          rotate_left
          · intro w' hw'; (try dsimp only at hw'); go_simp <;> with_reducible rfl
          try simp only [Act.put, List.setIfInBounds_toArray, List.set_cons_zero, List.set_cons_succ]
          refine AnyUp.take (i := 8) (v := ?_) (by simp only [List.getElem?_toArray, List.getElem?_cons_succ, List.getElem?_cons_zero]; rfl) (by kernel_rfl) (by kernel_rfl) (by kernel_rfl) (by kernel_rfl) (by kernel_rfl) (fun _ _ _ h => h) (Or.inl ⟨by rfl, ?_⟩) scd ?_
          rotate_left
          · intro w' hw'; (try dsimp only at hw'); go_simp <;> with_reducible rfl
          try simp only [Act.put, List.setIfInBounds_toArray, List.set_cons_zero, List.set_cons_succ]
          refine AnyUp.take (i := 9) (v := ?_) (by simp only [List.getElem?_toArray, List.getElem?_cons_succ, List.getElem?_cons_zero]; rfl) (by kernel_rfl) (by kernel_rfl) (by kernel_rfl) (by kernel_rfl) (by kernel_rfl) (fun _ _ _ h => h) (Or.inl ⟨by rfl, ?_⟩) scd ?_
          rotate_left
          · intro w' hw'; (try dsimp only at hw'); go_simp <;> with_reducible rfl
          try simp only [Act.put, List.setIfInBounds_toArray, List.set_cons_zero, List.set_cons_succ]
          refine AnyUp.takeQ (i := 10) (v := ?_) (by simp only [List.getElem?_toArray, List.getElem?_cons_succ, List.getElem?_cons_zero]; rfl) (by kernel_rfl) (by kernel_rfl) (by kernel_rfl) (by kernel_rfl) (fun _ _ _ h => h) (Or.inl ⟨by rfl, ?_⟩) ⟨scd.1, .inr scd.2⟩ ?_
          rotate_left
          · intro w' hw'; (try dsimp only at hw'); go_simp <;> with_reducible rfl
          try simp only [Act.put, List.setIfInBounds_toArray, List.set_cons_zero, List.set_cons_succ]
          refine AnyUp.takeQ (i := 11) (v := ?_) (by simp only [List.getElem?_toArray, List.getElem?_cons_succ, List.getElem?_cons_zero]; rfl) (by kernel_rfl) (by kernel_rfl) (by kernel_rfl) (by kernel_rfl) (fun _ _ _ h => h) (Or.inl ⟨by rfl, ?_⟩) ⟨scd.1, .inr scd.2⟩ ?_
          rotate_left
          · intro w' hw'; (try dsimp only at hw'); go_simp <;> with_reducible rfl
          try simp only [Act.put, List.setIfInBounds_toArray, List.set_cons_zero, List.set_cons_succ]
          refine AnyUp.takeQ (i := 12) (v := ?_) (by simp only [List.getElem?_toArray, List.getElem?_cons_succ, List.getElem?_cons_zero]; rfl) (by kernel_rfl) (by kernel_rfl) (by kernel_rfl) (by kernel_rfl) (fun _ _ _ h => h) (Or.inl ⟨by rfl, ?_⟩) ⟨scd.1, .inr scd.2⟩ ?_
          rotate_left
          · intro w' hw'; (try dsimp only at hw'); go_simp <;> with_reducible rfl
          try simp only [Act.put, List.setIfInBounds_toArray, List.set_cons_zero, List.set_cons_succ]
          refine AnyUp.take (i := 13) (v := ?_) (by simp only [List.getElem?_toArray, List.getElem?_cons_succ, List.getElem?_cons_zero]; rfl) (by kernel_rfl) (by kernel_rfl) (by kernel_rfl) (by kernel_rfl) (by kernel_rfl) (fun _ _ _ h => h) (Or.inl ⟨by rfl, ?_⟩) scd ?_
          rotate_left
          · intro w' hw'; (try dsimp only at hw'); go_simp <;> with_reducible rfl
          try simp only [Act.put, List.setIfInBounds_toArray, List.set_cons_zero, List.set_cons_succ]
          refine AnyUp.takeQ (i := 14) (v := ?_) (by simp only [List.getElem?_toArray, List.getElem?_cons_succ, List.getElem?_cons_zero]; rfl) (by kernel_rfl) (by kernel_rfl) (by kernel_rfl) (by kernel_rfl) (fun _ _ _ h => h) (Or.inl ⟨by rfl, ?_⟩) ⟨scd.1, .inr scd.2⟩ ?_
          rotate_left
          · intro w' hw'; (try dsimp only at hw'); go_simp <;> with_reducible rfl
          try simp only [Act.put, List.setIfInBounds_toArray, List.set_cons_zero, List.set_cons_succ]
          refine AnyUp.takeQ (i := 15) (v := ?_) (by simp only [List.getElem?_toArray, List.getElem?_cons_succ, List.getElem?_cons_zero]; rfl) (by kernel_rfl) (by kernel_rfl) (by kernel_rfl) (by kernel_rfl) (fun _ _ _ h => h) (Or.inl ⟨by rfl, ?_⟩) ⟨scd.1, .inr scd.2⟩ ?_
          rotate_left
          · intro w' hw'; (try dsimp only at hw'); go_simp <;> with_reducible rfl
          try simp only [Act.put, List.setIfInBounds_toArray, List.set_cons_zero, List.set_cons_succ]
          refine AnyUp.takeQ (i := 16) (v := ?_) (by simp only [List.getElem?_toArray, List.getElem?_cons_succ, List.getElem?_cons_zero]; rfl) (by kernel_rfl) (by kernel_rfl) (by kernel_rfl) (by kernel_rfl) (fun _ _ _ h => h) (Or.inl ⟨by rfl, ?_⟩) ⟨scd.1, .inr scd.2⟩ ?_
          rotate_left
          · intro w' hw'; (try dsimp only at hw'); go_simp <;> with_reducible rfl
          try simp only [Act.put, List.setIfInBounds_toArray, List.set_cons_zero, List.set_cons_succ]
          refine AnyUp.takeQ (i := 17) (v := ?_) (by simp only [List.getElem?_toArray, List.getElem?_cons_succ, List.getElem?_cons_zero]; rfl) (by kernel_rfl) (by kernel_rfl) (by kernel_rfl) (by kernel_rfl) (fun _ _ _ h => h) (Or.inl ⟨by rfl, ?_⟩) ⟨scd.1, .inr scd.2⟩ ?_
          rotate_left
          · intro w' hw'; (try dsimp only at hw'); go_simp <;> with_reducible rfl
          try simp only [Act.put, List.setIfInBounds_toArray, List.set_cons_zero, List.set_cons_succ]
          refine AnyUp.takeQ (i := 18) (v := ?_) (by simp only [List.getElem?_toArray, List.getElem?_cons_succ, List.getElem?_cons_zero]; rfl) (by kernel_rfl) (by kernel_rfl) (by kernel_rfl) (by kernel_rfl) (fun _ _ _ h => h) (Or.inl ⟨by rfl, ?_⟩) ⟨scd.1, .inr scd.2⟩ ?_
          rotate_left
          · intro w' hw'; (try dsimp only at hw'); go_simp <;> with_reducible rfl
          try simp only [Act.put, List.setIfInBounds_toArray, List.set_cons_zero, List.set_cons_succ]
          refine AnyUp.takeQ (i := 19) (v := ?_) (by simp only [List.getElem?_toArray, List.getElem?_cons_succ, List.getElem?_cons_zero]; rfl) (by kernel_rfl) (by kernel_rfl) (by kernel_rfl) (by kernel_rfl) (fun _ _ _ h => h) (Or.inl ⟨by rfl, ?_⟩) ⟨scd.1, .inr scd.2⟩ ?_
          rotate_left
          · intro w' hw'; (try dsimp only at hw'); go_simp <;> with_reducible rfl
          try simp only [Act.put, List.setIfInBounds_toArray, List.set_cons_zero, List.set_cons_succ]
          refine AnyUp.take (i := 20) (v := ?_) (by simp only [List.getElem?_toArray, List.getElem?_cons_succ, List.getElem?_cons_zero]; rfl) (by kernel_rfl) (by kernel_rfl) (by kernel_rfl) (by kernel_rfl) (by kernel_rfl) (fun _ _ _ h => h) (Or.inl ⟨by rfl, ?_⟩) scd ?_
          rotate_left
          · intro w' hw'; (try dsimp only at hw'); go_simp <;> with_reducible rfl
          try simp only [Act.put, List.setIfInBounds_toArray, List.set_cons_zero, List.set_cons_succ]
          refine AnyUp.takeQ (i := 21) (v := ?_) (by simp only [List.getElem?_toArray, List.getElem?_cons_succ, List.getElem?_cons_zero]; rfl) (by kernel_rfl) (by kernel_rfl) (by kernel_rfl) (by kernel_rfl) (fun _ _ _ h => h) (Or.inl ⟨by rfl, ?_⟩) ⟨scd.1, .inr scd.2⟩ ?_
          rotate_left
          · intro w' hw'; (try dsimp only at hw'); go_simp <;> with_reducible rfl
          try simp only [Act.put, List.setIfInBounds_toArray, List.set_cons_zero, List.set_cons_succ]
          refine AnyUp.takeQ (i := 22) (v := ?_) (by simp only [List.getElem?_toArray, List.getElem?_cons_succ, List.getElem?_cons_zero]; rfl) (by kernel_rfl) (by kernel_rfl) (by kernel_rfl) (by kernel_rfl) (fun _ _ _ h => h) (Or.inl ⟨by rfl, ?_⟩) ⟨scd.1, .inr scd.2⟩ ?_
          rotate_left
          · intro w' hw'; (try dsimp only at hw'); go_simp <;> with_reducible rfl
          try simp only [Act.put, List.setIfInBounds_toArray, List.set_cons_zero, List.set_cons_succ]
          refine AnyUp.takeQ (i := 23) (v := ?_) (by simp only [List.getElem?_toArray, List.getElem?_cons_succ, List.getElem?_cons_zero]; rfl) (by kernel_rfl) (by kernel_rfl) (by kernel_rfl) (by kernel_rfl) (fun _ _ _ h => h) (Or.inl ⟨by rfl, ?_⟩) ⟨scd.1, .inr scd.2⟩ ?_
          rotate_left
          · intro w' hw'; (try dsimp only at hw'); go_simp <;> with_reducible rfl
          try simp only [Act.put, List.setIfInBounds_toArray, List.set_cons_zero, List.set_cons_succ]
          refine AnyUp.takeQ (i := 1) (v := ?_) (by simp only [List.getElem?_toArray, List.getElem?_cons_succ, List.getElem?_cons_zero]; rfl) (by kernel_rfl) (by kernel_rfl) (by kernel_rfl) (by kernel_rfl) (fun _ _ _ h => h) (Or.inl ⟨by rfl, ?_⟩) ⟨scd.1, .inr scd.2⟩ ?_
          rotate_left
          · intro w' hw'; (try dsimp only at hw'); go_simp <;> with_reducible rfl
          try simp only [Act.put, List.setIfInBounds_toArray, List.set_cons_zero, List.set_cons_succ]
          refine AnyUp.takeQ (i := 2) (v := ?_) (by simp only [List.getElem?_toArray, List.getElem?_cons_succ, List.getElem?_cons_zero]; rfl) (by kernel_rfl) (by kernel_rfl) (by kernel_rfl) (by kernel_rfl) (fun _ _ _ h => h) (Or.inl ⟨by rfl, ?_⟩) ⟨scd.1, .inr scd.2⟩ ?_
          rotate_left
          · intro w' hw'; (try dsimp only at hw'); go_simp <;> with_reducible rfl
          try simp only [Act.put, List.setIfInBounds_toArray, List.set_cons_zero, List.set_cons_succ]
          refine AnyUp.takeQ (i := 24) (v := ?_) (by simp only [List.getElem?_toArray, List.getElem?_cons_succ, List.getElem?_cons_zero]; rfl) (by kernel_rfl) (by kernel_rfl) (by kernel_rfl) (by kernel_rfl) (fun _ _ _ h => h) (Or.inl ⟨by rfl, ?_⟩) ⟨scd.1, .inr scd.2⟩ ?_
          rotate_left
          · intro w' hw'; (try dsimp only at hw'); go_simp <;> with_reducible rfl
          try simp only [Act.put, List.setIfInBounds_toArray, List.set_cons_zero, List.set_cons_succ]
          refine AnyUp.takeQ (i := 25) (v := ?_) (by simp only [List.getElem?_toArray, List.getElem?_cons_succ, List.getElem?_cons_zero]; rfl) (by kernel_rfl) (by kernel_rfl) (by kernel_rfl) (by kernel_rfl) (fun _ _ _ h => h) (Or.inl ⟨by rfl, ?_⟩) ⟨scd.1, .inr scd.2⟩ ?_
          rotate_left
          · intro w' hw'; (try dsimp only at hw'); go_simp <;> with_reducible rfl
          try simp only [Act.put, List.setIfInBounds_toArray, List.set_cons_zero, List.set_cons_succ]
          refine' AnyUp.one (i := 26) (o := _) (by kernel_rfl) ?ho26 (fun K' hK => ?hh26)
          case ho26 => (simp only [List.getElem?_toArray, List.getElem?_cons_succ, List.getElem?_cons_zero]; rfl)
          go_simp
          have sc1 := EE.out _ (p1 * 5 + 2) (.int .i64 (y.o + x.o)) scd.1
          refine hK.out _ _ ⟨sc1, .inl rfl⟩ ?_
          clear hK K'
          try simp only [Act.put, List.setIfInBounds_toArray, List.set_cons_zero, List.set_cons_succ]
          refine AnyUp.takeQ (i := 27) (v := ?_) (by simp only [List.getElem?_toArray, List.getElem?_cons_succ, List.getElem?_cons_zero]; rfl) (by kernel_rfl) (by kernel_rfl) (by kernel_rfl) (by kernel_rfl) (fun _ _ _ h => h) (Or.inl ⟨by rfl, ?_⟩) ⟨sc1, .inl rfl⟩ ?_
          rotate_left
          · intro w' hw'; (try dsimp only at hw'); go_simp <;> with_reducible rfl
          try simp only [Act.put, List.setIfInBounds_toArray, List.set_cons_zero, List.set_cons_succ]
          refine AnyUp.takeQ (i := 28) (v := ?_) (by simp only [List.getElem?_toArray, List.getElem?_cons_succ, List.getElem?_cons_zero]; rfl) (by kernel_rfl) (by kernel_rfl) (by kernel_rfl) (by kernel_rfl) (fun _ _ _ h => h) (Or.inl ⟨by rfl, ?_⟩) ⟨sc1, .inl rfl⟩ ?_
          rotate_left
          · intro w' hw'; (try dsimp only at hw'); go_simp <;> with_reducible rfl
          try simp only [Act.put, List.setIfInBounds_toArray, List.set_cons_zero, List.set_cons_succ]
          refine' AnyUp.one (i := 29) (o := _) (by kernel_rfl) ?ho29 (fun K' hK => ?hh29)
          case ho29 => (simp only [List.getElem?_toArray, List.getElem?_cons_succ, List.getElem?_cons_zero]; rfl)
          go_simp
          have sc2 := EE.out _ (p1 * 5 + 3) (.int .i64 (y.m + x.m)) sc1
          refine hK.out _ _ ⟨sc2, .inl rfl⟩ ?_
          clear hK K'
          try simp only [Act.put, List.setIfInBounds_toArray, List.set_cons_zero, List.set_cons_succ]
          refine AnyUp.takeQ (i := 30) (v := ?_) (by simp only [List.getElem?_toArray, List.getElem?_cons_succ, List.getElem?_cons_zero]; rfl) (by kernel_rfl) (by kernel_rfl) (by kernel_rfl) (by kernel_rfl) (fun _ _ _ h => h) (Or.inl ⟨by rfl, ?_⟩) ⟨sc2, .inl rfl⟩ ?_
          rotate_left
          · intro w' hw'; (try dsimp only at hw'); go_simp <;> with_reducible rfl
          try simp only [Act.put, List.setIfInBounds_toArray, List.set_cons_zero, List.set_cons_succ]
          refine AnyUp.takeQ (i := 31) (v := ?_) (by simp only [List.getElem?_toArray, List.getElem?_cons_succ, List.getElem?_cons_zero]; rfl) (by kernel_rfl) (by kernel_rfl) (by kernel_rfl) (by kernel_rfl) (fun _ _ _ h => h) (Or.inl ⟨by rfl, ?_⟩) ⟨sc2, .inl rfl⟩ ?_
          rotate_left
          · intro w' hw'; (try dsimp only at hw'); go_simp <;> with_reducible rfl
          try simp only [Act.put, List.setIfInBounds_toArray, List.set_cons_zero, List.set_cons_succ]
          refine' AnyUp.one (i := 32) (o := _) (by kernel_rfl) ?ho32 (fun K' hK => ?hh32)
          case ho32 => (simp only [List.getElem?_toArray, List.getElem?_cons_succ, List.getElem?_cons_zero]; rfl)
          go_simp
          have sc3 := EE.out _ (p1 * 5 + 4) (.int .i64 (y.k + x.k)) sc2
          refine hK.out _ _ ⟨sc3, .inl rfl⟩ ?_
          clear hK K'
          try simp only [Act.put, List.setIfInBounds_toArray, List.set_cons_zero, List.set_cons_succ]
          refine AnyUp.done (by kernel_rfl) ?_ _
          refine NoPanic.normal ?_
          have HO9 := Lib.hid (own_add ((O10.out.below HB8.out).drew) g4 HY.out x.o x.m x.k)
          have HB9 := Lib.hid (((((HB.out.trans (HB8.out.mono HB.out.size)).drew).setCell (p := ⟨b5, p1 * 5 + 2, none⟩) HB5.out (.int .i64 (y.o + x.o))).setCell (p := ⟨b5, p1 * 5 + 3, none⟩) HB5.out (.int .i64 (y.m + x.m))).setCell (p := ⟨b5, p1 * 5 + 4, none⟩) HB5.out (.int .i64 (y.k + x.k)))
          clear sc1 sc2 sc3 scd r2 r3 r4 q2 q3 q4 f2 f3 f4
          go_wp2
          go_roundg (q1 - (k + 1))
          case measure => have := HGK.out; omega
          case rel => exact ⟨k + 1, p1 + 1, _, by omega, rfl, by go_num, by rw [HTS.out], HO9.out, by have := HAD.out; rw [HY.out, EX.out] at this; exact this, by have := HPK.out; omega, HB9.out⟩
        · have p2 : (y.c == x.c) = false := by simpa using hcc
          have hlt1 : ∀ j, j < p1 + 1 → (z j).c < (f1 k).c := fun j hj => by
            have h1 := HNB.out p1 (by omega)
            have h2 : (z j).c ≤ (z p1).c := by
              by_cases e : j = p1
              · rw [e]; exact Int.le_refl _
              · exact Int.le_of_lt (HC.out.asc j p1 (by omega) (by omega))
            rw [EX.out]
            rw [HY.out] at h1 h2
            omega
          have HPU := Lib.hid (HC.out.push hlt1)
          rw [EX.out] at HPU
          clear hcc hlt1
          go_wp2
          go_big_quiet (fail)
          obtain ⟨w8, hw8⟩ : ∃ w8, w8 = (wr.alloc (.cells #[.int .i64 x.c, .int .i64 x.y, .int .i64 x.o, .int .i64 x.m, .int .i64 x.k] 36)).drewN (n1 + nq) := ⟨_, rfl⟩; have HB8 : Hid (Below wr.heap.size wr w8) := Lib.hid (by rw [hw8]; exact below_drewN ((Below.refl _ _).alloc (Nat.le_refl _) _) _); have HS8 : Hid (w8.heap.size = wr.heap.size + 1) := Lib.hid (by rw [hw8]; simp); have HO8 := Lib.hid ((O10.out.below HB8.out).alloc (.cells (we ⟨x.c, -1, x.o, x.m, x.k⟩).toArray 36)); have HC8 := Lib.hid (rec_lit w8 (we ⟨x.c, -1, x.o, x.m, x.k⟩) 36 (wr.heap.size + 1) HS8.out); have HBW : Hid (Below v2.heap.size v2 (w8.alloc (.cells (we ⟨x.c, -1, x.o, x.m, x.k⟩).toArray 36))) := Lib.hid ((HB.out.trans (HB8.out.mono HB.out.size)).alloc (by have := HB.out.size; have := HS8.out; omega) _); have HBZ := Lib.hid HBW.out.size
          go_wp2_with (at_builtin; rw [← hw8]; (refine wpList_push_r rfl (.tmp 108) (.tmp 118) rfl rrow_type hi hz0 hz1 hz2 (by decide) rfl (by decide) we_len we_one v2 v2.heap.size (p1 + 1) (wr.heap.size + 1) _ z ⟨x.c, -1, x.o, x.m, x.k⟩ rfl rfl HC8.out HO8.out HP2.out HBW.out HBZ.out _ rfl ?_; intro b9 c9 w9 ho9 hb9 hg9 hat9; have HO9 := Lib.hid ho9; have HB9 := Lib.hid hb9; have HK9 := Lib.hid hg9; clear ho9 hb9 hg9 hat9))
          go_roundg (q1 - (k + 1))
          case measure => have := HGK.out; omega
          case rel => exact ⟨k + 1, p1 + 1 + 1, _, by omega, rfl, by go_num, by rw [HTS.out], HO9.out, HPU.out, by have := HPK.out; omega, HB9.out⟩
    · obtain rfl : k = q1 := by omega
      have hE : tot (fun j => (f1 j).m) k = btot gy ny - btot gx nx := by rw [HX.out.moved, X.out.iv.is.grid, Y.out.iv.is.grid]
      obtain ⟨V, hV⟩ : ∃ V, btot gy ny - btot gx nx = V := ⟨_, rfl⟩
      rw [hE, hV]
      have MV := Lib.hid fun wz (kk : Below w2.heap.size w2 wz) => hV ▸ MXY.out wz kk
      obtain ⟨A5, c5, rfl, hc5, hm5, _⟩ := O10.out.form
      have AT5 := Lib.hid (own_at O10.out)
      have hp9 : p ≤ 1000000 := by have := HQ9.out; omega
      have HP9 := Lib.hid hp9
      have BW := Lib.hid (BB3.out.trans (HB.out.mono BB3.out.size))
      have BB0 : Hid (Below w2.heap.size w2 wr.drew) := Lib.hid BW.out.drew
      have PB0 : Hid (Below v2.heap.size v2 wr.drew) := Lib.hid HB.out.drew
      have x0 := cell_keep KX.out HB.out
      have y0 := cell_keep KY.out HB.out
      have Kx : Hid (wr.drew.cell? ⟨sx, 0, none⟩ = some (.slice Ax nx cx)) := Lib.hid x0
      have Ky : Hid (wr.drew.cell? ⟨sy, 0, none⟩ = some (.slice Ay ny cy)) := Lib.hid y0
      have AT6 : Hid (AtR we 5 wr.drew A5 p z) := Lib.hid (AT5.out.below (below_drew wr))
      clear hlt hE hV hc5 hm5 hp9 hpk hk
      go_wp2
      go_region_held3 (fun w' => w'.cell? ⟨sx, 0, none⟩ = some (.slice Ax nx cx) ∧ w'.cell? ⟨sy, 0, none⟩ = some (.slice Ay ny cy)) (first | go_keep) (first | (go_at_call 11; (with_reducible refine (MV.out _ BB0.out).mono ?_); rintro e v3 ⟨rfl, hb3⟩; have x3 := cell_keep Kx.out hb3; have y3 := cell_keep Ky.out hb3; have PB3 := Lib.hid (PB0.out.trans (hb3.mono PB0.out.size)); have AT7 := Lib.hid (AT6.out.below hb3); clear hb3) | (go_at_call 14; (with_reducible refine (PC.out _ PB3.out).mono ?_); rintro e v4 ⟨A4, m4, c4, z4, rfl, ho4, hc4, hm4, hb4⟩; have x4 := cell_keep x3 hb4; have y4 := cell_keep y3 hb4; have PB4 := Lib.hid (PB3.out.trans (hb4.mono PB3.out.size)); have AT8 := Lib.hid (AT7.out.below hb4); obtain ⟨eq4, ez4⟩ := hc4.uniq HC.out; subst eq4; have CS := Lib.hid (wsame_true A4 A5 m4 c4 c5 z4 z v4 (own_at ho4) AT8.out HP9.out ez4); clear ho4 hc4 hm4 hb4 ez4) | (go_at_call 15; (with_reducible refine (CS.out).mono ?_); rintro e v5 ⟨rfl, hb5⟩; have x5 := cell_keep x4 hb5; have y5 := cell_keep y4 hb5; have PB5 := Lib.hid (PB4.out.trans (hb5.mono PB4.out.size)); clear hb5) | (go_at_call 12; (with_reducible refine (wakes11_any _).mono ?_); rintro e v6 ⟨rfl, hb6⟩; have x6 := cell_keep x5 hb6; have y6 := cell_keep y5 hb6; have PB6 := Lib.hid (PB5.out.trans (hb6.mono PB5.out.size)); clear hb6))
      go_wp2
      go_ret
      exact ⟨rfl, B2.out.trans ((BB3.out.trans (PB6.out.mono BB3.out.size)).mono B2.out.size)⟩
end Go.Proofs.Ytcobenflfnmhgaa
