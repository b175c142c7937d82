/- RollSums: its walk. -/
import Derived.Test.YtcobenflfnmhgaaLaw11b
import Derived.WalkKit
import Derived.WalkSpells
import Derived.WalkLawsBesides
import Derived.Lib.Hide
import Derived.IntWalk
import Derived.Deep.LoopGhost
import Derived.Deep.QuietTactic
import Derived.BigQuiet
import Derived.Deep.RegionHeld3
namespace Go.Proofs.Ytcobenflfnmhgaa
open Go.RowKit

theorem rtot_at {w : World} {sb n c : Nat} {A : Option Addr} {S : Int → Int → Int} {g : Nat → Bk} (h : RX w sb A n c S g) :
    Calls Try.prog 17 #[ptr sb] w fun e w' => e = .returned (.int .i64 (btot g n)) ∧ Below w.heap.size w w' := by
  have c0 := h.cell
  have HA := Lib.hid h.row
  have HG : Hid (∀ j, j < n → Mon (g j).a) := Lib.hid fun j hj => h.iv.is.mon h.iv.mon hj
  have hn := h.iv.le
  clear h
  go_enter Try.func17, Try.ntmps17
  go_wp2
  go_loopg [3, 11] n (fun gh x i wr => ∃ k : Nat, k ≤ n ∧ gh = n - k ∧ i = .int .i64 k ∧ x = .int .i64 (btot g k) ∧ Below w.heap.size w wr)
  case atStart => exact ⟨0, Nat.zero_le _, rfl, rfl, rfl, Below.refl _ _⟩
  case round =>
    obtain ⟨k, hk, hgk, rfl, rfl, hbw⟩ := hrel
    have HGK := Lib.hid hgk
    have HW := Lib.hid hbw
    have tb := tot_bd (fun j => (g j).a) k fun j hj => HG.out j (by omega)
    obtain ⟨T, hT⟩ : ∃ T, btot g k = T := ⟨_, rfl⟩
    rw [show tot (fun j => (g j).a) k = T from hT] at tb
    rw [hT]
    have HT := Lib.hid hT
    clear hgk hbw hT
    by_cases hlt : k < n
    · obtain ⟨b, off, rfl, hb, c0, c1, c2⟩ := (HA.out.below HW.out).three hlt
      have hx := HG.out k hlt
      obtain ⟨x, hx'⟩ : ∃ x, (g k).a = x := ⟨_, rfl⟩
      rw [hx'] at c2 hx
      have HX := Lib.hid hx'
      clear hx'
      unfold Mon at hx
      obtain ⟨x1, x2⟩ := hx
      obtain ⟨t1, t2⟩ := tb
      have ew : IntKind.i64.wrap (T + x) = T + x := IntWalk.i64_in _ (by omega)
      clear t1 t2
      go_wp2
      go_roundg (n - (k + 1))
      case measure => have := HGK.out; omega
      case rel => exact ⟨k + 1, by omega, rfl, by go_num, by rw [← HT.out, ← HX.out]; rfl, HW.out.alloc HW.out.size _⟩
    · obtain rfl : k = n := by omega
      clear hlt tb
      go_wp2
      go_ret
      exact ⟨congrArg (fun x => Ending.returned (.int .i64 x)) HT.out.symm, HW.out⟩
/-- from itself to itself -/
theorem fis_self {S : Int → Int → Int} {n : Nat} {g : Nat → Bk} (b : BIs S n g) : FIs S S n (fun j => ⟨(g j).c, (g j).y, (g j).a, 0, (g j).a⟩) := by
  refine ⟨⟨⟨b.1.ok, fun _ _ => (by show (1 : Int) ≠ 0; decide), b.1.asc⟩, fun c y => ?_⟩, fun j hj => (b.at hj).symm, fun j hj => (b.at hj).symm, fun j _ => (by show (0 : Int) = (g j).a - (g j).a; omega)⟩
  by_cases hs : S c y = 0
  · rw [bget_none fun j hj e => ?_]
    · exact (if_pos ⟨hs, hs⟩).symm
    · dsimp only at e
      have := b.at hj
      rw [e.1, e.2, hs] at this
      exact b.1.nz j hj this.symm
  · obtain ⟨j, hj, e1, e2⟩ := b.has hs
    unfold bget
    rw [tot_one _ j n hj fun i hi hne => ?_]
    · have l : bval ⟨(g j).c, (g j).y, 1⟩ c y = 1 := if_pos ⟨e1, e2⟩
      rw [l]
      unfold both
      rw [if_neg (by omega)]
    · refine if_neg fun e => hne ?_
      exact b.1.inj hi hj (e.1.trans e1.symm) (e.2.trans e2.symm)
theorem fis_small {S S' : Int → Int → Int} {q : Nat} {f : Nat → Wy} (h : FIs S S' q f) (m1 : ∀ c y, Mon (S c y)) (m2 : ∀ c y, Mon (S' c y)) {j : Nat} (hj : j < q) : Mon (f j).o ∧ Mon (f j).k ∧ (f j).m = (f j).k - (f j).o ∧ Small (f j) := by
  have a1 : Mon (f j).o := by rw [h.op j hj]; exact m1 _ _
  have a2 : Mon (f j).k := by rw [h.cl j hj]; exact m2 _ _
  have a3 := h.mv j hj
  refine ⟨a1, a2, a3, ?_⟩
  unfold Mon at a1 a2
  unfold Small
  omega
theorem cs_add {f : Nat → Wy} {c : Int} : ∀ n, (∀ j, j < n → (f j).m = (f j).k - (f j).o) → cs (·.o) f c n + cs (·.m) f c n = cs (·.k) f c n
  | 0, _ => rfl
  | n + 1, h => by
    have a := cs_add (c := c) n fun j hj => h j (by omega)
    have b := h n (by omega)
    rw [cs_succ, cs_succ, cs_succ]
    split <;> omega
set_option maxHeartbeats 8000000 in
set_option maxRecDepth 100000 in
theorem rollSums_walk (a0 : Option Addr) (len0 cap0 : Nat) (z0 : List Int) (a1 : Option Addr) (len1 cap1 : Nat) (z1 : List Int) (w : World) (w0 : IsRow .i64 w a0 len0 cap0 z0) (w1 : IsRow .i64 w a1 len1 cap1 z1) :
    Calls Try.prog 6 #[.slice a0 len0 cap0, .slice a1 len1 cap1] w fun e w' => e = .returned (.bool true) ∧ Below w.heap.size w w' := by
  have R0 := Lib.hid w0
  have R1 := Lib.hid w1
  clear w0 w1
  go_enter Try.func6, Try.ntmps6
  go_wp2_with fail
  refine (preg_rx a0 len0 cap0 z0 w R0.out).mono ?_
  rintro e w1 ⟨sx, Ax, nx, cx, Sx, gx, rfl, hx, hb1⟩
  have X1 := Lib.hid hx
  have B1 := Lib.hid hb1
  clear hx hb1
  go_wp2_with fail
  refine (preg_rx a1 len1 cap1 z1 w1 (R1.out.below B1.out)).mono ?_
  rintro e w2 ⟨sy, Ay, ny, cy, Sy, gy, rfl, hy, hb2⟩
  have X := Lib.hid (X1.out.below hb2)
  have Y := Lib.hid hy
  have B2 := Lib.hid (B1.out.trans (hb2.mono B1.out.size))
  clear hy hb2 X1 B1
  have PXY := Lib.hid fun wz (k : Below w2.heap.size w2 wz) => rx_fwd (X.out.below k) (Y.out.below k)
  have PYX := Lib.hid fun wz (k : Below w2.heap.size w2 wz) => rx_fwd (Y.out.below k) (X.out.below k)
  have PXX := Lib.hid fun wz (k : Below w2.heap.size w2 wz) => rx_fwd (X.out.below k) (X.out.below k)
  have MXY := Lib.hid fun wz (k : Below w2.heap.size w2 wz) => rx_mvd (X.out.below k) (Y.out.below k)
  have MXX := Lib.hid fun wz (k : Below w2.heap.size w2 wz) => rx_mvd (X.out.below k) (X.out.below k)
  have TX := Lib.hid fun wz (k : Below w2.heap.size w2 wz) => rtot_at (X.out.below k)
  have TY := Lib.hid fun wz (k : Below w2.heap.size w2 wz) => rtot_at (Y.out.below k)
  have BB0 : Hid (Below w2.heap.size w2 w2.drew) := Lib.hid (below_drew w2)
  have x0 := X.out.cell
  have y0 := Y.out.cell
  have Kx : Hid (w2.drew.cell? ⟨sx, 0, none⟩ = some (.slice Ax nx cx)) := Lib.hid x0
  have Ky : Hid (w2.drew.cell? ⟨sy, 0, none⟩ = some (.slice Ay ny cy)) := Lib.hid y0
  go_wp2
  go_region_held3 (fun w' => w'.cell? ⟨sx, 0, none⟩ = some (.slice Ax nx cx) ∧ w'.cell? ⟨sy, 0, none⟩ = some (.slice Ay ny cy)) (first | go_keep) (first | (go_at_call 9; (with_reducible refine (PXY.out _ BB0.out).mono ?_); rintro e v1 ⟨D1, q1, d1, f1, rfl, ho1, hf1, hb1⟩; have x1 := cell_keep Kx.out hb1; have y1 := cell_keep Ky.out hb1; have BB1 := Lib.hid (BB0.out.trans (hb1.mono BB0.out.size)); have OO1 := Lib.hid ho1; have HF1 := Lib.hid hf1; clear ho1 hf1 hb1) | (go_at_call 9; (with_reducible refine (PYX.out _ BB1.out).mono ?_); rintro e v2 ⟨D2, q2, d2, f2, rfl, ho2, hf2, hb2⟩; have x2 := cell_keep x1 hb2; have y2 := cell_keep y1 hb2; have BB2 := Lib.hid (BB1.out.trans (hb2.mono BB1.out.size)); have AT1 := Lib.hid ((own_at OO1.out).below hb2); have AT2 := Lib.hid (own_at ho2); have HF2 := Lib.hid hf2; clear ho2 hf2 hb2))
  obtain ⟨eq, ef⟩ := HF1.out.back.uniq HF2.out
  subst eq
  have EF := Lib.hid ef
  clear ef
  have BM := Lib.hid BB2.out
  have HX := Lib.hid HF1.out
  have hsm := Lib.hid fun j (hj : j < q1) => fis_small HF1.out X.out.iv.mon Y.out.iv.mon hj
  have hq9 := HF1.out.le
  have hcap := OO1.out.form
  obtain ⟨_, _, e, hd1, hd2, _⟩ := hcap
  injection e with e1 _ e3
  subst e1 e3
  have PC := Lib.hid fun wz (k : Below v2.heap.size v2 wz) => pcls (c := d1) (AT1.out.below k) (by omega) (fun j hj => (hsm.out j hj).2.2.2) ⟨hd1, hd2⟩
  clear BB0 BB1 Kx Ky x1 y1 x2 y2
  go_wp2
  go_loopg [9, 10, 44] q1 (fun gh s9 s10 s44 wr => ∃ k : Nat, k ≤ q1 ∧ gh = q1 - k ∧ s44 = .int .i64 k ∧ s9 = .int .i64 (tot (fun j => (f1 j).o) k) ∧ s10 = .int .i64 (tot (fun j => (f1 j).k) k) ∧ Below v2.heap.size v2 wr)
  case atStart => exact ⟨0, Nat.zero_le _, rfl, rfl, rfl, rfl, Below.refl _ _⟩
  case round =>
    obtain ⟨k, hk, hgk, rfl, rfl, rfl, hb⟩ := hrel
    have HGK := Lib.hid hgk
    have HB := Lib.hid hb
    clear hgk hb
    by_cases hlt : k < q1
    · obtain ⟨mo, mk, em, _⟩ := hsm.out k hlt
      have t1 := tot_bd (fun j => (f1 j).o) k fun j hj => (hsm.out j (by omega)).1
      have t2 := tot_bd (fun j => (f1 j).k) k fun j hj => (hsm.out j (by omega)).2.1
      have hany := HX.out.any hlt
      obtain ⟨b, off, rfl, hbl, c0, c1, c2, c3, c4⟩ := (AT1.out.below HB.out).five hlt
      obtain ⟨b', off', rfl, hbl', c0', c1', c2', c3', c4'⟩ := (AT2.out.below HB.out).five hlt
      rw [← EF.out k hlt] at c0' c1' c2' c3' c4'
      dsimp only at c0' c1' c2' c3' c4' t1 t2
      obtain ⟨x, hx⟩ : ∃ x, f1 k = x := ⟨_, rfl⟩
      obtain ⟨To, hTo⟩ : ∃ T, tot (fun j => (f1 j).o) k = T := ⟨_, rfl⟩
      obtain ⟨Tk, hTk⟩ : ∃ T, tot (fun j => (f1 j).k) k = T := ⟨_, rfl⟩
      rw [hx] at c0 c1 c2 c3 c4 c0' c1' c2' c3' c4' mo mk em hany
      rw [hTo] at t1
      rw [hTk] at t2
      rw [hTo, hTk]
      unfold Mon at mo mk
      have ew1 : IntKind.i64.wrap (To + x.o) = To + x.o := IntWalk.i64_in _ (by omega)
      have ew2 : IntKind.i64.wrap (Tk + x.k) = Tk + x.k := IntWalk.i64_in _ (by omega)
      have ew3 : IntKind.i64.wrap (x.o + x.m) = x.k := by rw [em, show x.o + (x.k - x.o) = x.k by omega]; exact IntWalk.i64_in _ (by omega)
      have ew4 : wrap64 (-x.m) = -x.m := by unfold wrap64; omega
      have k0 : (0 : Int) ≤ (k : Int) := by omega
      have k1 : (k : Int) < (q1 : Int) := by omega
      have n1 : b ≠ wr.heap.size := by omega
      have n2 : b' ≠ wr.heap.size := by omega
      have NL := rec_lit wr (we x) 36 wr.heap.size rfl
      have l0 := NL 0 _ rfl
      have l1 := NL 1 _ rfl
      have l2 := NL 2 _ rfl
      have l3 := NL 3 _ rfl
      have l4 := NL 4 _ rfl
      have kl := (Below.refl wr.heap.size wr).alloc (Nat.le_refl _) (.cells (we x).toArray 36)
      have d0 := cell_keep c0' kl
      have d1' := cell_keep c1' kl
      have d3 := cell_keep c3' kl
      have KL := Lib.hid (HB.out.alloc HB.out.size (.cells (we x).toArray 36))
      simp only [we] at l0 l1 l2 l3 l4 d0 d1' d3 KL
      have HXK := Lib.hid hx
      have HTO := Lib.hid hTo
      have HTK := Lib.hid hTk
      clear NL kl t1 t2 em hx hTo hTk mo mk
      by_cases hz : x.o = 0
      · have p1 : (x.o == 0) = true := by simpa using hz
        have p2 : (x.k == 0) = false := by simp; omega
        clear hany hz
        go_wp2
        go_big_quiet (fail)
        go_wp2
        go_big_quiet (fail)
        go_wp2
        go_roundg (q1 - (k + 1))
        case measure => have := HGK.out; omega
        case rel => exact ⟨k + 1, by omega, rfl, by go_num, by rw [← HTO.out, ← HXK.out]; rfl, by rw [← HTK.out, ← HXK.out]; rfl, below_drewN KL.out _⟩
      · have p1 : (x.o == 0) = false := by simpa using hz
        clear hany
        go_wp2
        go_big_quiet (fail)
        go_wp2
        go_big_quiet (fail)
        go_wp2
        go_roundg (q1 - (k + 1))
        case measure => have := HGK.out; omega
        case rel => exact ⟨k + 1, by omega, rfl, by go_num, by rw [← HTO.out, ← HXK.out]; rfl, by rw [← HTK.out, ← HXK.out]; rfl, below_drewN KL.out _⟩
    · obtain rfl : k = q1 := by omega
      clear hlt
      have eo : tot (fun j => (f1 j).o) k = btot gx nx := HX.out.opening.trans X.out.iv.is.grid.symm
      have ek : tot (fun j => (f1 j).k) k = btot gy ny := HX.out.closing.trans Y.out.iv.is.grid.symm
      rw [eo, ek]
      have tx := X.out.iv.all
      have ty := Y.out.iv.all
      obtain ⟨Tx, hTx⟩ : ∃ T, btot gx nx = T := ⟨_, rfl⟩
      obtain ⟨Ty, hTy⟩ : ∃ T, btot gy ny = T := ⟨_, rfl⟩
      rw [hTx, hTy]
      rw [hTx] at tx MXY MXX TX
      rw [hTy] at ty MXY TY
      unfold Mon at tx ty
      have ewT : IntKind.i64.wrap (Ty - Tx) = Ty - Tx := IntWalk.i64_in _ (by omega)
      have C5 := Lib.hid (PC.out _ HB.out)
      clear eo ek hTx hTy tx ty
      go_wp2_with fail
      refine (C5.out).mono ?_
      rintro e w5 ⟨A5, m, c5, z, rfl, ho5, hc5, hm5, hb5⟩
      have AT5 := Lib.hid (own_at ho5)
      have CI := Lib.hid hc5
      have B5 := Lib.hid (BM.out.trans ((HB.out.trans (hb5.mono HB.out.size)).mono BM.out.size))
      have hsum : Hid (∀ j, j < m → (z j).y = -1 ∧ IntKind.i64.wrap ((z j).o + (z j).m) = (z j).k) := Lib.hid fun j hj => by
        have e1 := CI.out.so j hj
        have e2 := CI.out.sm j hj
        have e3 := CI.out.sk j hj
        have e4 := cs_add (f := f1) (c := (z j).c) k fun j hj => (hsm.out j hj).2.2.1
        have e5 := cs_bd (F := (·.k)) (f := f1) (c := (z j).c) (B := 1000000000000) k (fun j hj => (hsm.out j hj).2.2.2.2.2) (by omega)
        refine ⟨CI.out.yr j hj, ?_⟩
        rw [show (z j).o + (z j).m = (z j).k by rw [e1, e2, e3]; exact e4]
        refine IntWalk.i64_in _ ?_
        rw [e3]
        omega
      clear ho5 hc5 hb5 C5
      go_wp2
      go_loopg [110] m (fun gh s110 wr => ∃ i : Nat, i ≤ m ∧ gh = m - i ∧ s110 = .int .i64 i ∧ Below w5.heap.size w5 wr)
      case atStart => exact ⟨0, Nat.zero_le _, rfl, rfl, Below.refl _ _⟩
      case round =>
        obtain ⟨i, hi, hgi, rfl, hbz⟩ := hrel
        have HGI := Lib.hid hgi
        have HZ := Lib.hid hbz
        clear hgi hbz
        by_cases him : i < m
        · obtain ⟨ey, ez⟩ := hsum.out i him
          obtain ⟨b, off, rfl, hbl, c0, c1, c2, c3, c4⟩ := (AT5.out.below HZ.out).five him
          rw [ey] at c1
          obtain ⟨u, hu⟩ : ∃ u, z i = u := ⟨_, rfl⟩
          rw [hu] at c0 c2 c3 c4 ez
          have i1 : (i : Int) < (m : Int) := by omega
          clear hu ey
          go_wp2
          go_roundg (m - (i + 1))
          case measure => have := HGI.out; omega
          case rel => exact ⟨i + 1, by omega, rfl, by go_num, HZ.out.alloc HZ.out.size _⟩
        · obtain rfl : i = m := by omega
          clear him
          have BB0 : Hid (Below w2.heap.size w2 wr.drew) := Lib.hid (B5.out.trans (HZ.out.mono B5.out.size)).drew
          have bb := Lib.hid (B5.out.trans (HZ.out.mono B5.out.size))
          have x0 := (X.out.below bb.out).cell
          have y0 := (Y.out.below bb.out).cell
          have Kx : Hid (wr.drew.cell? ⟨sx, 0, none⟩ = some (.slice Ax nx cx)) := Lib.hid x0
          have Ky : Hid (wr.drew.cell? ⟨sy, 0, none⟩ = some (.slice Ay ny cy)) := Lib.hid y0
          go_wp2
          go_region_held3 (fun w' => w'.cell? ⟨sx, 0, none⟩ = some (.slice Ax nx cx) ∧ w'.cell? ⟨sy, 0, none⟩ = some (.slice Ay ny cy)) (first | go_keep) (first | (go_at_call 17; (with_reducible refine (TX.out _ BB0.out).mono ?_); rintro e v1 ⟨rfl, hb1⟩; have x1 := cell_keep Kx.out hb1; have y1 := cell_keep Ky.out hb1; have BB1 := Lib.hid (BB0.out.trans (hb1.mono BB0.out.size)); clear hb1) | (go_at_call 17; (with_reducible refine (TY.out _ BB1.out).mono ?_); rintro e v2 ⟨rfl, hb2⟩; have x2 := cell_keep x1 hb2; have y2 := cell_keep y1 hb2; have BB2 := Lib.hid (BB1.out.trans (hb2.mono BB1.out.size)); clear hb2) | (go_at_call 11; (with_reducible refine (MXY.out _ BB2.out).mono ?_); rintro e v3 ⟨rfl, hb3⟩; have x3 := cell_keep x2 hb3; have y3 := cell_keep y2 hb3; have BB3 := Lib.hid (BB2.out.trans (hb3.mono BB2.out.size)); clear hb3) | (go_at_call 11; (with_reducible refine (MXX.out _ BB3.out).mono ?_); rintro e v4 ⟨rfl, hb4⟩; have x4 := cell_keep x3 hb4; have y4 := cell_keep y3 hb4; have BB4 := Lib.hid (BB3.out.trans (hb4.mono BB3.out.size)); clear hb4) | (go_at_call 9; (with_reducible refine (PXX.out _ BB4.out).mono ?_); rintro e v5 ⟨D5, q5, d5, f5, rfl, ho5, hf5, hb5⟩; have x5 := cell_keep x4 hb5; have y5 := cell_keep y4 hb5; have BB5 := Lib.hid (BB4.out.trans (hb5.mono BB4.out.size)); obtain rfl : q5 = nx := (fis_self X.out.iv.is).uniq hf5 |>.1.symm; clear ho5 hf5 hb5) | (go_at_call 12; (with_reducible refine (wakes11_any _).mono ?_); rintro e v6 ⟨rfl, hb6⟩; have x6 := cell_keep x5 hb6; have y6 := cell_keep y5 hb6; have BB6 := Lib.hid (BB5.out.trans (hb6.mono BB5.out.size)); clear hb6))
          go_wp2
          go_ret
          exact ⟨rfl, B2.out.trans (BB6.out.mono B2.out.size)⟩
end Go.Proofs.Ytcobenflfnmhgaa
