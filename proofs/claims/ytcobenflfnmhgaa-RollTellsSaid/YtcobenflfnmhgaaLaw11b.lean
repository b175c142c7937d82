/- RollChains: its walk. -/
import Derived.Test.YtcobenflfnmhgaaLaw11a
import Derived.WalkKit
import Derived.WalkSpells
import Derived.WalkLawsBesides
import Derived.Lib.Hide
import Derived.IntWalk
import Derived.Deep.LoopGhost
import Derived.Deep.RegionHeld3
namespace Go.Proofs.Ytcobenflfnmhgaa
open Go.RowKit

theorem own_at {w : World} {E : TypeId} {base n c : Nat} {A : Option Addr} {f : Nat → Wy} (h : OwnR we 5 w E base (.slice A n c) n f) : AtR we 5 w A n f := by
  obtain ⟨_, _, e, _, _, _, hat⟩ := h.at we_len
  injection e with e1 _ _
  rw [e1]; exact hat
section
variable {w w1 : World} {sx nx cx sy ny cy : Nat} {Ax Ay : Option Addr} {Sx Sy : Int → Int → Int} {gx gy : Nat → Bk}
theorem rx_fwd (hx : RX w sx Ax nx cx Sx gx) (hy : RX w sy Ay ny cy Sy gy) :
    Calls Try.prog 9 #[.slice Ax nx cx, .slice Ay ny cy] w fun e w' => ∃ A2 q c2 f, e = .returned (.slice A2 q c2) ∧ OwnR we 5 w' 36 w.heap.size (.slice A2 q c2) q f ∧ FIs Sx Sy q f ∧ Below w.heap.size w w' :=
  pfwd hx.row hy.row hx.iv hy.iv hx.cap hy.cap
theorem rx_mvd (hx : RX w sx Ax nx cx Sx gx) (hy : RX w sy Ay ny cy Sy gy) :
    Calls Try.prog 11 #[.slice Ax nx cx, .slice Ay ny cy] w fun e w' => e = .returned (.int .i64 (btot gy ny - btot gx nx)) ∧ Below w.heap.size w w' :=
  pmvd hx.row hy.row hx.iv hy.iv hx.cap hy.cap
end
set_option maxHeartbeats 8000000 in
set_option maxRecDepth 100000 in
theorem rollChains_walk (a0 : Option Addr) (len0 cap0 : Nat) (z0 : List Int) (a1 : Option Addr) (len1 cap1 : Nat) (z1 : List Int) (a2 : Option Addr) (len2 cap2 : Nat) (z2 : List Int) (w : World) (w0 : IsRow .i64 w a0 len0 cap0 z0) (w1 : IsRow .i64 w a1 len1 cap1 z1) (w2 : IsRow .i64 w a2 len2 cap2 z2) :
    Calls Try.prog 3 #[.slice a0 len0 cap0, .slice a1 len1 cap1, .slice a2 len2 cap2] w fun e w' => e = .returned (.bool true) ∧ Below w.heap.size w w' := by
  have R0 := Lib.hid w0
  have R1 := Lib.hid w1
  have R2 := Lib.hid w2
  clear w0 w1 w2
  go_enter Try.func3, Try.ntmps3
  go_wp2_with fail
  refine (preg_rx a0 len0 cap0 z0 w R0.out).mono ?_
  rintro e w1 ⟨sx, Ax, nx, cx, Sx, gx, rfl, hx, hb1⟩
  have X1 := Lib.hid hx
  have B1 := Lib.hid hb1
  clear hx hb1
  go_wp2_with fail
  refine (preg_rx a1 len1 cap1 z1 w1 (R1.out.below B1.out)).mono ?_
  rintro e w2 ⟨sy, Ay, ny, cy, Sy, gy, rfl, hy, hb2⟩
  have X2 := Lib.hid (X1.out.below hb2)
  have Y2 := Lib.hid hy
  have B2 := Lib.hid (B1.out.trans (hb2.mono B1.out.size))
  clear hy hb2
  go_wp2_with fail
  refine (preg_rx a2 len2 cap2 z2 w2 (R2.out.below B2.out)).mono ?_
  rintro e w3 ⟨sz, Az, nz, cz, Sz, gz, rfl, hz, hb3⟩
  have X := Lib.hid (X2.out.below hb3)
  have Y := Lib.hid (Y2.out.below hb3)
  have Z := Lib.hid hz
  have B3 := Lib.hid (B2.out.trans (hb3.mono B2.out.size))
  clear hz hb3 X2 Y2 X1 B1 B2
  have PXY := Lib.hid fun wz (k : Below w3.heap.size w3 wz) => rx_fwd (X.out.below k) (Y.out.below k)
  have PYZ := Lib.hid fun wz (k : Below w3.heap.size w3 wz) => rx_fwd (Y.out.below k) (Z.out.below k)
  have PXZ := Lib.hid fun wz (k : Below w3.heap.size w3 wz) => rx_fwd (X.out.below k) (Z.out.below k)
  have MXY := Lib.hid fun wz (k : Below w3.heap.size w3 wz) => rx_mvd (X.out.below k) (Y.out.below k)
  have MYZ := Lib.hid fun wz (k : Below w3.heap.size w3 wz) => rx_mvd (Y.out.below k) (Z.out.below k)
  have MXZ := Lib.hid fun wz (k : Below w3.heap.size w3 wz) => rx_mvd (X.out.below k) (Z.out.below k)
  go_wp2
  go_loopg [10] 3 (fun gh s10 wr => ∃ k : Nat, 1 ≤ k ∧ k ≤ 4 ∧ gh = 4 - k ∧ s10 = .int .i64 k ∧ Below w3.heap.size w3 wr)
  case atStart => exact ⟨1, by omega, by omega, rfl, rfl, Below.refl _ _⟩
  case round =>
    obtain ⟨k, hk1, hk2, hgk, rfl, hb⟩ := hrel
    have HGK := Lib.hid hgk
    have HB := Lib.hid hb
    clear hgk hb
    obtain ⟨wo, rfl⟩ : ∃ wo, wo = wr := ⟨_, rfl⟩
    by_cases hk : k ≤ 3
    · have hk3 : (k : Int) ≤ 3 := by omega
      go_wp2
      go_loopg [11] 5 (fun gh s11 wx => ∃ y : Nat, y ≤ 5 ∧ gh = 5 - y ∧ s11 = .int .i64 y ∧ Below w3.heap.size w3 wx)
      case atStart => exact ⟨0, by omega, rfl, rfl, HB.out⟩
      case round =>
        obtain ⟨y, hy, hgy, rfl, hb⟩ := hrel
        have HGY := Lib.hid hgy
        have BB0 : Hid (Below w3.heap.size w3 wr.drew) := Lib.hid hb.drew
        have hbr := Lib.hid hb
        have x0 := (X.out.below hb).cell
        have y0 := (Y.out.below hb).cell
        have z0' := (Z.out.below hb).cell
        have Kx : Hid (wr.drew.cell? ⟨sx, 0, none⟩ = some (.slice Ax nx cx)) := Lib.hid x0
        have Ky : Hid (wr.drew.cell? ⟨sy, 0, none⟩ = some (.slice Ay ny cy)) := Lib.hid y0
        have Kz : Hid (wr.drew.cell? ⟨sz, 0, none⟩ = some (.slice Az nz cz)) := Lib.hid z0'
        clear hgy hb
        by_cases hlt : y < 5
        · have hy5 : (y : Int) < 5 := by omega
          have ma := X.out.iv.mon k y
          have mb := Y.out.iv.mon k y
          have mc := Z.out.iv.mon k y
          obtain ⟨a, ha⟩ : ∃ a, Sx k y = a := ⟨_, rfl⟩
          obtain ⟨b, hb⟩ : ∃ b, Sy k y = b := ⟨_, rfl⟩
          obtain ⟨c, hc⟩ : ∃ c, Sz k y = c := ⟨_, rfl⟩
          rw [ha] at ma
          rw [hb] at mb
          rw [hc] at mc
          unfold Mon at ma mb mc
          have ew1 : IntKind.i64.wrap (b - a + (c - b)) = c - a := by rw [show b - a + (c - b) = c - a by omega]; exact IntWalk.i64_in _ (by omega)
          have ew2 : IntKind.i64.wrap (c - a) = c - a := IntWalk.i64_in _ (by omega)
          have GX := Lib.hid fun wz (q : Below w3.heap.size w3 wz) => (X.out.below q).get k y
          have GZ := Lib.hid fun wz (q : Below w3.heap.size w3 wz) => (Z.out.below q).get k y
          rw [ha] at GX
          rw [hc] at GZ
          have HA := Lib.hid ha
          have HB2 := Lib.hid hb
          have HC := Lib.hid hc
          clear ha hb hc ma mb mc
          go_wp2
          go_region_held3 (fun w' => w'.cell? ⟨sx, 0, none⟩ = some (.slice Ax nx cx) ∧ w'.cell? ⟨sy, 0, none⟩ = some (.slice Ay ny cy) ∧ w'.cell? ⟨sz, 0, none⟩ = some (.slice Az nz cz)) (first | go_keep) (first | (go_at_call 9; (with_reducible refine (PXY.out _ BB0.out).mono ?_); rintro e v1 ⟨D1, q1, d1, f1, rfl, ho1, hf1, hb1⟩; have x1 := cell_keep Kx.out hb1; have y1 := cell_keep Ky.out hb1; have z1 := cell_keep Kz.out hb1; have BB1 := Lib.hid (BB0.out.trans (hb1.mono BB0.out.size)); have AT1 := Lib.hid (own_at ho1); have HF1 := Lib.hid hf1; clear ho1 hf1 hb1) | (go_at_call 8; (with_reducible refine (mvd_any _ _ _ f1 _ AT1.out HF1.out _ _).mono ?_); rintro e v2 ⟨rfl, hb2⟩; have x2 := cell_keep x1 hb2; have y2 := cell_keep y1 hb2; have z2 := cell_keep z1 hb2; have BB2 := Lib.hid (BB1.out.trans (hb2.mono BB1.out.size)); clear hb2) | (go_at_call 9; (with_reducible refine (PYZ.out _ BB2.out).mono ?_); rintro e v3 ⟨D3, q3, d3, f3, rfl, ho3, hf3, hb3⟩; have x3 := cell_keep x2 hb3; have y3 := cell_keep y2 hb3; have z3 := cell_keep z2 hb3; have BB3 := Lib.hid (BB2.out.trans (hb3.mono BB2.out.size)); have AT3 := Lib.hid (own_at ho3); have HF3 := Lib.hid hf3; clear ho3 hf3 hb3) | (go_at_call 8; (with_reducible refine (mvd_any _ _ _ f3 _ AT3.out HF3.out _ _).mono ?_); rintro e v4 ⟨rfl, hb4⟩; have x4 := cell_keep x3 hb4; have y4 := cell_keep y3 hb4; have z4 := cell_keep z3 hb4; have BB4 := Lib.hid (BB3.out.trans (hb4.mono BB3.out.size)); clear hb4) | (go_at_call 9; (with_reducible refine (PXZ.out _ BB4.out).mono ?_); rintro e v5 ⟨D5, q5, d5, f5, rfl, ho5, hf5, hb5⟩; have x5 := cell_keep x4 hb5; have y5 := cell_keep y4 hb5; have z5 := cell_keep z4 hb5; have BB5 := Lib.hid (BB4.out.trans (hb5.mono BB4.out.size)); have AT5 := Lib.hid (own_at ho5); have HF5 := Lib.hid hf5; clear ho5 hf5 hb5) | (go_at_call 8; (with_reducible refine (mvd_any _ _ _ f5 _ AT5.out HF5.out _ _).mono ?_); rintro e v6 ⟨rfl, hb6⟩; have x6 := cell_keep x5 hb6; have y6 := cell_keep y5 hb6; have z6 := cell_keep z5 hb6; have BB6 := Lib.hid (BB5.out.trans (hb6.mono BB5.out.size)); clear hb6))
          rw [HA.out, HB2.out, HC.out]
          go_wp2_with fail
          refine (GZ.out _ BB6.out).mono ?_
          rintro e w7 ⟨rfl, hb7⟩
          have BB7 := Lib.hid (BB6.out.trans (hb7.mono BB6.out.size))
          clear hb7
          go_wp2_with fail
          refine (GX.out _ BB7.out).mono ?_
          rintro e w8 ⟨rfl, hb8⟩
          have BB8 := Lib.hid (BB7.out.trans (hb8.mono BB7.out.size))
          clear hb8
          go_wp2
          go_roundg (5 - (y + 1))
          case measure => have := HGY.out; omega
          case rel => exact ⟨y + 1, by omega, rfl, by go_num, BB8.out⟩
        · obtain rfl : y = 5 := by omega
          clear hlt
          go_wp2
          go_roundg (4 - (k + 1))
          case measure => have := HGK.out; omega
          case rel => exact ⟨k + 1, by omega, by omega, rfl, by go_num, hbr.out⟩
    · obtain rfl : k = 4 := by omega
      clear hk
      have BB0 : Hid (Below w3.heap.size w3 wo.drew) := Lib.hid HB.out.drew
      have x0 := (X.out.below HB.out).cell
      have y0 := (Y.out.below HB.out).cell
      have z0' := (Z.out.below HB.out).cell
      have Kx : Hid (wo.drew.cell? ⟨sx, 0, none⟩ = some (.slice Ax nx cx)) := Lib.hid x0
      have Ky : Hid (wo.drew.cell? ⟨sy, 0, none⟩ = some (.slice Ay ny cy)) := Lib.hid y0
      have Kz : Hid (wo.drew.cell? ⟨sz, 0, none⟩ = some (.slice Az nz cz)) := Lib.hid z0'
      have tx := X.out.iv.all
      have ty := Y.out.iv.all
      have tz := Z.out.iv.all
      obtain ⟨Tx, hTx⟩ : ∃ T, btot gx nx = T := ⟨_, rfl⟩
      obtain ⟨Ty, hTy⟩ : ∃ T, btot gy ny = T := ⟨_, rfl⟩
      obtain ⟨Tz, hTz⟩ : ∃ T, btot gz nz = T := ⟨_, rfl⟩
      rw [hTx] at tx MXY MXZ
      rw [hTy] at ty MXY MYZ
      rw [hTz] at tz MYZ MXZ
      unfold Mon at tx ty tz
      have ew1 : IntKind.i64.wrap (Ty - Tx + (Tz - Ty)) = Tz - Tx := by rw [show Ty - Tx + (Tz - Ty) = Tz - Tx by omega]; exact IntWalk.i64_in _ (by omega)
      clear hTx hTy hTz tx ty tz
      go_wp2
      go_region_held3 (fun w' => w'.cell? ⟨sx, 0, none⟩ = some (.slice Ax nx cx) ∧ w'.cell? ⟨sy, 0, none⟩ = some (.slice Ay ny cy) ∧ w'.cell? ⟨sz, 0, none⟩ = some (.slice Az nz cz)) (first | go_keep) (first | (go_at_call 11; (with_reducible refine (MXY.out _ BB0.out).mono ?_); rintro e v1 ⟨rfl, hb1⟩; have x1 := cell_keep Kx.out hb1; have y1 := cell_keep Ky.out hb1; have z1 := cell_keep Kz.out hb1; have BB1 := Lib.hid (BB0.out.trans (hb1.mono BB0.out.size)); clear hb1) | (go_at_call 11; (with_reducible refine (MYZ.out _ BB1.out).mono ?_); rintro e v2 ⟨rfl, hb2⟩; have x2 := cell_keep x1 hb2; have y2 := cell_keep y1 hb2; have z2 := cell_keep z1 hb2; have BB2 := Lib.hid (BB1.out.trans (hb2.mono BB1.out.size)); clear hb2) | (go_at_call 11; (with_reducible refine (MXZ.out _ BB2.out).mono ?_); rintro e v3 ⟨rfl, hb3⟩; have x3 := cell_keep x2 hb3; have y3 := cell_keep y2 hb3; have z3 := cell_keep z2 hb3; have BB3 := Lib.hid (BB2.out.trans (hb3.mono BB2.out.size)); clear hb3) | (go_at_call 12; (with_reducible refine (wakes11_any _).mono ?_); rintro e v4 ⟨rfl, hb4⟩; have x4 := cell_keep x3 hb4; have y4 := cell_keep y3 hb4; have z4 := cell_keep z3 hb4; have BB4 := Lib.hid (BB3.out.trans (hb4.mono BB3.out.size)); clear hb4))
      go_wp2
      go_ret
      exact ⟨rfl, B3.out.trans (BB4.out.mono B3.out.size)⟩
end Go.Proofs.Ytcobenflfnmhgaa
