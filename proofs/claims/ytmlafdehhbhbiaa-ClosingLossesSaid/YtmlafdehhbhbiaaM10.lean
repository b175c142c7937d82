/- Several texts of mine in one: VnCmp VnRow VnDel Vint Vint2 Vint3 Vint4. -/
import Derived.Test.YtmlafdehhbhbiaaRows
import Derived.Test.YtmlafdehhbhbiaaM2
import Derived.Test.YtmlafdehhbhbiaaM5
import Derived.Test.YtmlafdehhbhbiaaM3
import Derived.Test.YtmlafdehhbhbiaaM1
import Derived.WalkKit
import Derived.WalkSpells
import Derived.WalkLawsBesides
import Derived.Lib.Hide
import Derived.IntWalk
import Derived.Deep.LoopGhost
import Derived.Deep.QuietTactic
import Derived.BigQuiet
import Derived.Deep.RegionHeld3
import Derived.Lib.LazyBuf
import Derived.Laws.Externs
import Derived.Laws.NewBlocks
import Derived.Deep.RegionLaw
import Derived.Maps.AppendAt
import Derived.Deep.DeepCutAuto
import Derived.Test.YtmlafdehhbhbiaaM6
import Derived.ScopeJumps
import Derived.WalkMore
/- Package vintage: how two losses compare; where one stands among others (slices.BinarySearchFunc walked): a contract for each. -/
namespace Go.Proofs.Ytmlafdehhbhbiaa
open Go.RowKit

/-- a loss, as a value -/
abbrev va (x : Bk) : Value := .agg #[.int .i64 x.y, .int .i64 x.c, .int .i64 x.a]
/-- how two losses compare -/
def vkc (x z : Bk) : Int := orc (cmpc x.c z.c) (cmpc x.y z.y)
set_option maxRecDepth 100000 in
theorem vkc_neg {x z : Bk} : vkc x z < 0 ↔ Bl x.c x.y z.c z.y := by unfold vkc orc Bl cmpc; split <;> (repeat' split) <;> omega
set_option maxRecDepth 100000 in
theorem vkc_zero {x z : Bk} : vkc x z = 0 ↔ x.c = z.c ∧ x.y = z.y := by unfold vkc orc cmpc; split <;> (repeat' split) <;> omega
set_option maxRecDepth 100000 in
set_option maxHeartbeats 2000000 in
theorem vcmp_any (x z : Bk) (w : World) : Calls Try.prog 81 #[va x, va z] w fun e w' => e = .returned (.int .i64 (vkc x z)) ∧ Below w.heap.size w w' := by
  obtain ⟨xc, xy, xa⟩ := x
  obtain ⟨zc, zy, za⟩ := z
  simp only [va, vkc] at *
  go_enter Try.func81, Try.ntmps81
  go_wp2
  obtain ⟨w1, hw1⟩ : ∃ w1, w1 = (w.alloc (.cells #[.int .i64 xy, .int .i64 xc, .int .i64 xa] 78)).alloc (.cells #[.int .i64 zy, .int .i64 zc, .int .i64 za] 78) := ⟨_, rfl⟩
  have hs : w1.heap.size = w.heap.size + 2 := by rw [hw1]; simp
  have HB1 : Hid (Below w.heap.size w w1) := Lib.hid (by rw [hw1]; exact ((Below.refl _ _).alloc (Nat.le_refl _) _).alloc (by simp) _)
  have N1 := rec_lit w [.int .i64 xy, .int .i64 xc, .int .i64 xa] 78 w.heap.size rfl
  have N2 := rec_lit (w.alloc (.cells #[.int .i64 xy, .int .i64 xc, .int .i64 xa] 78)) [.int .i64 zy, .int .i64 zc, .int .i64 za] 78 (w.heap.size + 1) (by simp)
  have x0 : w1.cell? ⟨w.heap.size, 0, none⟩ = some (.int .i64 xy) := by rw [hw1]; exact cell_keep (N1 0 _ rfl) ((Below.refl _ _).alloc (Nat.le_refl _) _)
  have x1 : w1.cell? ⟨w.heap.size, 1, none⟩ = some (.int .i64 xc) := by rw [hw1]; exact cell_keep (N1 1 _ rfl) ((Below.refl _ _).alloc (Nat.le_refl _) _)
  have z0 : w1.cell? ⟨w.heap.size + 1, 0, none⟩ = some (.int .i64 zy) := by rw [hw1]; exact N2 0 _ rfl
  have z1 : w1.cell? ⟨w.heap.size + 1, 1, none⟩ = some (.int .i64 zc) := by rw [hw1]; exact N2 1 _ rfl
  rw [← hw1]
  clear hw1 N1 N2
  have M0 := rec_lit w1 [.int .i64 (cmpc xc zc), .int .i64 (cmpc xy zy)] 3 (w.heap.size + 2) hs 0 _ rfl
  have M1 := rec_lit w1 [.int .i64 (cmpc xc zc), .int .i64 (cmpc xy zy)] 3 (w.heap.size + 2) hs 1 _ rfl
  have CO := Lib.hid (cmpor_any (w.heap.size + 2) (cmpc xc zc) (cmpc xy zy) (w1.alloc (.cells #[.int .i64 (cmpc xc zc), .int .i64 (cmpc xy zy)] 3)).drew M0 M1)
  have BA : Hid (Below w1.heap.size w1 (w1.alloc (.cells #[.int .i64 (cmpc xc zc), .int .i64 (cmpc xy zy)] 3)).drew) := Lib.hid ((Below.refl _ _).alloc (Nat.le_refl _) _).drew
  clear M0 M1
  go_region_held3 (fun w' => w'.cell? ⟨w.heap.size, 0, none⟩ = some (.int .i64 xy) ∧ w'.cell? ⟨w.heap.size, 1, none⟩ = some (.int .i64 xc) ∧ w'.cell? ⟨w.heap.size + 1, 0, none⟩ = some (.int .i64 zy) ∧ w'.cell? ⟨w.heap.size + 1, 1, none⟩ = some (.int .i64 zc)) (first | go_keep) (first | (go_at_call 85; (with_reducible refine (cmpi_any _ _ _).mono ?_); rintro e w' ⟨rfl, rfl⟩) | (go_at_call 84; (refine (CO.out).mono ?_); rintro e w2 ⟨rfl, hb2⟩; have hbb := BA.out.trans (hb2.mono BA.out.size); have k0 := cell_keep x0 hbb; have k1 := cell_keep x1 hbb; have k2 := cell_keep z0 hbb; have k3 := cell_keep z1 hbb; have HB2 := Lib.hid (HB1.out.trans (hbb.mono HB1.out.size)); clear hbb hb2))
  go_wp2
  go_ret
  exact ⟨rfl, HB2.out⟩
/-- where a loss is, or would ve -/
structure VAt (n : Nat) (g : Nat → Bk) (z : Bk) (p : Nat) (f : Bool) : Prop where
  le : p ≤ n
  lo : ∀ j, j < p → Bl (g j).c (g j).y z.c z.y
  hi : ∀ j, p ≤ j → j < n → ((g j).c = z.c ∧ (g j).y = z.y) ∨ Bl z.c z.y (g j).c (g j).y
  fd : f = true ↔ p < n ∧ (g p).c = z.c ∧ (g p).y = z.y
set_option maxRecDepth 100000 in
theorem vl_upto {n : Nat} {g : Nat → Bk} {c y : Int} {k j : Nat} (r : VRow n g) (hk : k < n) (h : Bl (g k).c (g k).y c y) (hj : j ≤ k) : Bl (g j).c (g j).y c y := by
  by_cases e : j = k
  · rw [e]; exact h
  · have := r.asc j k (by omega) hk
    unfold Bl at *; omega
set_option maxRecDepth 100000 in
theorem vl_from {n : Nat} {g : Nat → Bk} {c y : Int} {k j : Nat} (r : VRow n g) (hj : j < n) (h : ¬ Bl (g k).c (g k).y c y) (hk : k ≤ j) : ¬ Bl (g j).c (g j).y c y := by
  by_cases e : j = k
  · rw [e]; exact h
  · have := r.asc k j (by omega) hj
    unfold Bl at *; omega
set_option maxRecDepth 100000 in
theorem vl_where {n : Nat} {g : Nat → Bk} {c y : Int} {p : Nat} (_r : VRow n g) (h : ∀ j, p ≤ j → j < n → ¬ Bl (g j).c (g j).y c y) : ∀ j, p ≤ j → j < n → ((g j).c = c ∧ (g j).y = y) ∨ Bl c y (g j).c (g j).y := fun j h1 h2 => by
  have := h j h1 h2
  unfold Bl at *; omega
set_option maxRecDepth 100000 in
set_option maxHeartbeats 4000000 in
theorem vsearch_any (A : Option Addr) (n c : Nat) (g : Nat → Bk) (z : Bk) (w : World) (hr : AtR ve 3 w A n g) (hb : VRow n g) (hn : n ≤ 1000000) (hnc : n ≤ c) :
    Calls Try.prog 80 #[.slice A n c, va z, .func (.func 81) #[] #[]] w fun e w' => ∃ (p : Nat) (f : Bool), e = .returned (.tuple #[.int .i64 p, .bool f]) ∧ VAt n g z p f ∧ Below w.heap.size w w' := by
  obtain ⟨zc, zy, za⟩ := z
  have HR := Lib.hid hr
  have HW := Lib.hid hb
  simp only [va] at *
  clear hr hb
  go_enter Try.func80, Try.ntmps80
  go_wp2
  obtain ⟨w1, hw1⟩ : ∃ w1, w1 = w.alloc (.cells #[.int .i64 zy, .int .i64 zc, .int .i64 za] 78) := ⟨_, rfl⟩
  rw [← hw1]
  have HB1 : Hid (Below w.heap.size w w1) := Lib.hid (by rw [hw1]; exact (Below.refl _ _).alloc (Nat.le_refl _) _)
  have N1 := rec_lit w [.int .i64 zy, .int .i64 zc, .int .i64 za] 78 w.heap.size rfl
  rw [← hw1] at N1
  have e0 := N1 0 _ rfl
  have e1 := N1 1 _ rfl
  have e2 := N1 2 _ rfl
  clear N1 hw1
  go_loopg [9, 10] n (fun gh s9 s10 wr => ∃ lo hi : Nat, s9 = .int .i64 lo ∧ s10 = .int .i64 hi ∧ lo ≤ hi ∧ hi ≤ n ∧ hi - lo ≤ gh ∧ (∀ j, j < lo → Bl (g j).c (g j).y zc zy) ∧ (∀ j, hi ≤ j → j < n → ¬ Bl (g j).c (g j).y zc zy) ∧ Below w1.heap.size w1 wr)
  case atStart => exact ⟨0, n, rfl, rfl, Nat.zero_le _, Nat.le_refl _, by omega, fun j hj => by omega, fun j h1 h2 => by omega, Below.refl _ _⟩
  case round =>
    obtain ⟨lo, hi, rfl, rfl, hlh, hin, hg, h1, h2, hbw⟩ := hrel
    have HL := Lib.hid h1
    have HH := Lib.hid h2
    have HB := Lib.hid hbw
    have d0 := cell_keep e0 hbw
    have d1 := cell_keep e1 hbw
    have d2 := cell_keep e2 hbw
    clear h1 h2 hbw
    by_cases hlt : lo < hi
    · obtain ⟨b, off, rfl, hb, c0, c1, c2⟩ := ((HR.out.below HB1.out).below HB.out).threeV (show (lo + hi) / 2 < n by omega)
      have CC := Lib.hid fun w => vcmp_any (g ((lo + hi) / 2)) ⟨zc, zy, za⟩ w
      have b1 : (0 : Int) ≤ ((lo : Int) + (hi : Int)) / 2 := by omega
      have b2 : ((lo : Int) + (hi : Int)) / 2 < (n : Int) := by omega
      have b3 : (((lo : Int) + (hi : Int)) / 2).toNat = (lo + hi) / 2 := by omega
      by_cases hyx : vkc (g ((lo + hi) / 2)) ⟨zc, zy, za⟩ < 0
      · have HN := Lib.hid (vkc_neg.1 hyx)
        go_wp2
        go_region_held3 (fun w' => w'.cell? ⟨b, off + (lo + hi) / 2 * 3, none⟩ = some (.int .i64 (g ((lo + hi) / 2)).y) ∧ w'.cell? ⟨b, off + (lo + hi) / 2 * 3 + 1, none⟩ = some (.int .i64 (g ((lo + hi) / 2)).c) ∧ w'.cell? ⟨b, off + (lo + hi) / 2 * 3 + 2, none⟩ = some (.int .i64 (g ((lo + hi) / 2)).a) ∧ w'.cell? ⟨w.heap.size, 0, none⟩ = some (.int .i64 zy) ∧ w'.cell? ⟨w.heap.size, 1, none⟩ = some (.int .i64 zc) ∧ w'.cell? ⟨w.heap.size, 2, none⟩ = some (.int .i64 za)) (first | go_keep) (first | (go_at_call 81; (refine (CC.out _).mono ?_); rintro e w2 ⟨rfl, hb2⟩; have k0 := cell_keep (w := wr.drew) c0 hb2; have k1 := cell_keep (w := wr.drew) c1 hb2; have k2 := cell_keep (w := wr.drew) c2 hb2; have k3 := cell_keep (w := wr.drew) d0 hb2; have k4 := cell_keep (w := wr.drew) d1 hb2; have k5 := cell_keep (w := wr.drew) d2 hb2; have HB2 := Lib.hid (HB.out.trans (((below_drew wr).trans hb2).mono HB.out.size)); clear hb2))
        go_wp2
        go_roundg (hi - ((lo + hi) / 2 + 1))
        case measure => omega
        case rel => exact ⟨(lo + hi) / 2 + 1, hi, by go_num, rfl, by omega, hin, Nat.le_refl _, fun j hj => vl_upto HW.out (show (lo + hi) / 2 < n by omega) HN.out (by omega), HH.out, HB2.out⟩
      · have HN := Lib.hid (fun q => hyx (vkc_neg.2 q))
        have hyx' : decide (vkc (g ((lo + hi) / 2)) ⟨zc, zy, za⟩ < 0) = false := by simpa using hyx
        clear hyx
        go_wp2
        go_region_held3 (fun w' => w'.cell? ⟨b, off + (lo + hi) / 2 * 3, none⟩ = some (.int .i64 (g ((lo + hi) / 2)).y) ∧ w'.cell? ⟨b, off + (lo + hi) / 2 * 3 + 1, none⟩ = some (.int .i64 (g ((lo + hi) / 2)).c) ∧ w'.cell? ⟨b, off + (lo + hi) / 2 * 3 + 2, none⟩ = some (.int .i64 (g ((lo + hi) / 2)).a) ∧ w'.cell? ⟨w.heap.size, 0, none⟩ = some (.int .i64 zy) ∧ w'.cell? ⟨w.heap.size, 1, none⟩ = some (.int .i64 zc) ∧ w'.cell? ⟨w.heap.size, 2, none⟩ = some (.int .i64 za)) (first | go_keep) (first | (go_at_call 81; (refine (CC.out _).mono ?_); rintro e w2 ⟨rfl, hb2⟩; have k0 := cell_keep (w := wr.drew) c0 hb2; have k1 := cell_keep (w := wr.drew) c1 hb2; have k2 := cell_keep (w := wr.drew) c2 hb2; have k3 := cell_keep (w := wr.drew) d0 hb2; have k4 := cell_keep (w := wr.drew) d1 hb2; have k5 := cell_keep (w := wr.drew) d2 hb2; have HB2 := Lib.hid (HB.out.trans (((below_drew wr).trans hb2).mono HB.out.size)); clear hb2))
        go_wp2
        go_roundg ((lo + hi) / 2 - lo)
        case measure => omega
        case rel => exact ⟨lo, (lo + hi) / 2, rfl, by go_num, by omega, by omega, Nat.le_refl _, HL.out, fun j h1 h2 => vl_from HW.out h2 HN.out h1, HB2.out⟩
    · obtain rfl : hi = lo := by omega
      by_cases hp : hi < n
      · obtain ⟨b, off, rfl, hb, c0, c1, c2⟩ := ((HR.out.below HB1.out).below HB.out).threeV hp
        have CC := Lib.hid fun w => vcmp_any (g hi) ⟨zc, zy, za⟩ w
        have b1 : (0 : Int) ≤ (hi : Int) := by omega
        have b2 : (hi : Int) < (n : Int) := by omega
        by_cases hyx : vkc (g hi) ⟨zc, zy, za⟩ = 0
        · have HN := Lib.hid (vkc_zero.1 hyx)
          have hp' : decide ((hi : Int) < (n : Int)) = true := by simpa using hp
          have hyx' : (vkc (g hi) ⟨zc, zy, za⟩ == 0) = true := by simpa using hyx
          clear hyx hlt
          go_wp2
          go_region_held3 (fun w' => w'.cell? ⟨b, off + hi * 3, none⟩ = some (.int .i64 (g (hi)).y) ∧ w'.cell? ⟨b, off + hi * 3 + 1, none⟩ = some (.int .i64 (g (hi)).c) ∧ w'.cell? ⟨b, off + hi * 3 + 2, none⟩ = some (.int .i64 (g (hi)).a) ∧ w'.cell? ⟨w.heap.size, 0, none⟩ = some (.int .i64 zy) ∧ w'.cell? ⟨w.heap.size, 1, none⟩ = some (.int .i64 zc) ∧ w'.cell? ⟨w.heap.size, 2, none⟩ = some (.int .i64 za)) (first | go_keep) (first | (go_at_call 81; (refine (CC.out _).mono ?_); rintro e w2 ⟨rfl, hb2⟩; have k0 := cell_keep (w := wr.drew) c0 hb2; have k1 := cell_keep (w := wr.drew) c1 hb2; have k2 := cell_keep (w := wr.drew) c2 hb2; have k3 := cell_keep (w := wr.drew) d0 hb2; have k4 := cell_keep (w := wr.drew) d1 hb2; have k5 := cell_keep (w := wr.drew) d2 hb2; have HB2 := Lib.hid (HB.out.trans (((below_drew wr).trans hb2).mono HB.out.size)); clear hb2))
          go_wp2
          go_ret2
          exact ⟨hi, true, rfl, ⟨hin, HL.out, vl_where HW.out HH.out, by simpa using ⟨hp, HN.out⟩⟩, HB1.out.trans (HB2.out.mono HB1.out.size)⟩
        · have HN : Hid (¬ ((g hi).c = zc ∧ (g hi).y = zy)) := Lib.hid (fun q => hyx (vkc_zero.2 q))
          have hp' : decide ((hi : Int) < (n : Int)) = true := by simpa using hp
          have hyx' : (vkc (g hi) ⟨zc, zy, za⟩ == 0) = false := by simpa using hyx
          clear hyx hlt
          go_wp2
          go_region_held3 (fun w' => w'.cell? ⟨b, off + hi * 3, none⟩ = some (.int .i64 (g (hi)).y) ∧ w'.cell? ⟨b, off + hi * 3 + 1, none⟩ = some (.int .i64 (g (hi)).c) ∧ w'.cell? ⟨b, off + hi * 3 + 2, none⟩ = some (.int .i64 (g (hi)).a) ∧ w'.cell? ⟨w.heap.size, 0, none⟩ = some (.int .i64 zy) ∧ w'.cell? ⟨w.heap.size, 1, none⟩ = some (.int .i64 zc) ∧ w'.cell? ⟨w.heap.size, 2, none⟩ = some (.int .i64 za)) (first | go_keep) (first | (go_at_call 81; (refine (CC.out _).mono ?_); rintro e w2 ⟨rfl, hb2⟩; have k0 := cell_keep (w := wr.drew) c0 hb2; have k1 := cell_keep (w := wr.drew) c1 hb2; have k2 := cell_keep (w := wr.drew) c2 hb2; have k3 := cell_keep (w := wr.drew) d0 hb2; have k4 := cell_keep (w := wr.drew) d1 hb2; have k5 := cell_keep (w := wr.drew) d2 hb2; have HB2 := Lib.hid (HB.out.trans (((below_drew wr).trans hb2).mono HB.out.size)); clear hb2))
          go_wp2
          go_ret2
          exact ⟨hi, false, rfl, ⟨hin, HL.out, vl_where HW.out HH.out, by simpa using fun _ => HN.out⟩, HB1.out.trans (HB2.out.mono HB1.out.size)⟩
      · obtain rfl : hi = n := by omega
        have HN := Lib.hid hp
        clear hlt hp
        go_wp2
        go_big_quiet (fail)
        go_wp2
        go_ret2
        exact ⟨hi, false, rfl, ⟨hin, HL.out, vl_where HW.out HH.out, by simp⟩, HB1.out.trans ((below_drewN HB.out _).mono HB1.out.size)⟩
end Go.Proofs.Ytmlafdehhbhbiaa

/- Package vintage's rows: slices.Clone, slices.Insert of one loss, slices.Delete of the first ones, walked: a contract for each, which says whose block was written. -/
namespace Go.Proofs.Ytmlafdehhbhbiaa
open Go.RowKit

set_option maxRecDepth 100000 in
theorem vn_zero (w : World) : (zeroValue 78).run Try.prog w = .ok (.agg #[.int .i64 0, .int .i64 0, .int .i64 0]) w := rfl
set_option maxRecDepth 100000 in
theorem vn_zeros : (Builtin.zeroCells (Value.agg #[.int .i64 0, .int .i64 0, .int .i64 0]).cells (0 + 1)).toList = [.int .i64 0, .int .i64 0, .int .i64 0] := by simp [Builtin.zeroCells, Value.cells, List.range_succ]
set_option maxRecDepth 100000 in
theorem vclone (v : Value) (n b0 : Nat) (g : Nat → Bk) (w : World) (h : OwnR ve 3 w 78 b0 v n g) (hn : n ≤ 1000000) :
    Calls Try.prog 63 #[v] w fun e w' => ∃ v', e = .returned v' ∧ OwnR ve 3 w' 78 w.heap.size v' n g ∧ Below w.heap.size w w' := by
  obtain ⟨i0, hi, hz0, hz1, hz2⟩ := info_parts vn_info
  have HS := Lib.hid h
  rcases h.2 with ⟨rfl, rfl⟩ | ⟨gb, cap, cur, rfl, _⟩
  · clear h
    have hop := fun w => run_eql_slice_nil (P := Try.prog) w 74 78 none 0 0 vn_type
    go_enter Try.func63, Try.ntmps63
    go_wp2_with (simp only [hop])
    go_ret
    exact ⟨_, rfl, OwnR.nil _ _ _ _ _ _, Below.refl _ _⟩
  · clear h
    have hop := fun w => run_eql_slice_nil (P := Try.prog) w 74 78 (some ⟨gb, 0, none⟩) n cap vn_type
    go_enter Try.func63, Try.ntmps63
    go_wp2_with (first | (simp only [hop]) | at_builtin; (refine wpList_app_row rfl (.tmp 5) (.tmp 6) rfl vn_type hi hz0 hz1 hz2 rfl (by decide) w w.heap.size b0 0 n cap _ _ [] _ rfl rfl (World.ownsRow_lit w #[] 0 (Nat.le_refl _) (by decide) rfl) (HS.out.alloc _) (rl_one ve_one) (by unfold maxLen; omega) (by omega) ((Below.refl _ _).alloc (Nat.le_refl _) _) (by simp) ?_; intro v1 w1 ho1 hb1 hg1; rw [Nat.zero_add, List.nil_append] at ho1))
    go_ret
    exact ⟨_, rfl, ho1, hb1⟩
section
variable {w : World} {base n c X : Nat} {A : Option Addr} {g : Nat → Bk} {x : Bk}
set_option maxRecDepth 100000 in
/-- a bucket put in behind all -/
theorem vinsert_end (o : OwnR ve 3 w 78 base (.slice A n c) n g) (hX : w.heap[X]? = some (.cells (ve x).toArray 78 (0, 0))) (hn : n ≤ 1000) (hb : base ≤ w.heap.size) :
    Calls Try.prog 70 #[.slice A n c, .int .i64 n, .slice (some ⟨X, 0, none⟩) 1 1] w fun e w' => ∃ b c', e = .returned (.slice (some ⟨b, 0, none⟩) (n + 1) c') ∧ OwnR ve 3 w' 78 base (.slice (some ⟨b, 0, none⟩) (n + 1) c') (n + 1) (insB g n x) ∧ w.grownBy w' (Value.slice A n c).ownBlock ∧ ((Value.slice A n c).ownBlock = some b ∨ w.heap.size ≤ b) := by
  obtain ⟨i0, hi, hz0, hz1, hz2⟩ := info_parts vn_info
  obtain ⟨A', c', e', hc1, hc2, _⟩ := o.form
  injection e' with e1 _ e3
  subst e1 e3
  have HO := Lib.hid o
  obtain ⟨ob, hob⟩ : ∃ ob, ob = (Value.slice A n c).ownBlock := ⟨_, rfl⟩
  rw [← hob]
  have HOB := Lib.hid hob
  clear hob
  have hc : ∀ j u, (ve x)[j]? = some u → w.cell? ⟨X, j, none⟩ = some u := fun j u hu => by rw [cell_of_row _ X j _ _ (0, 0) hX]; simpa using hu
  have HC := Lib.hid hc
  clear o hX hc
  go_enter Try.func70, Try.ntmps70
  go_wp2_with (at_builtin; (refine wpList_push_r rfl (.tmp 23) (.tmp 24) rfl vn_type hi hz0 hz1 hz2 (by decide) rfl (by decide) ve_len ve_one w base n X (.slice A n c) g x rfl rfl HC.out HO.out (by omega) (Below.refl _ _) hb _ rfl ?_; intro b2 c3 w6 ho2 hb2 hg2 hat2; have HO2 := Lib.hid ho2; rw [← HOB.out] at hg2 hat2; have HW2 := Lib.hid hg2; have HA2 := Lib.hid hat2; clear ho2 hb2 hg2 hat2))
  all_goals
    go_ret
    exact ⟨_, _, rfl, HO2.out.ext fun j hj => (by unfold insB; by_cases q : j < n
                                                  · rw [if_pos q, if_neg (by omega)]
                                                  · rw [if_neg q, if_pos (by omega), if_pos (by omega)]), HW2.out, HA2.out.imp id fun e => by omega⟩
set_option maxRecDepth 100000 in
theorem vov_apart (w : World) (b off lb cb : Nat) {cx cb' : List Value} (hX : w.heap[X]? = some (.cells cx.toArray 78 (0, 0))) (hB : w.heap[b]? = some (.cells cb'.toArray 78 (0, 0))) (hne : X ≠ b) (h0 : cb'.length ≠ 0) :
    (callFunc 82 #[.slice (some ⟨X, 0, none⟩) 1 1, .slice (some ⟨b, off, none⟩) lb cb]).run Try.prog w = .ok (.value (.bool false)) w := by
  rw [run_callFunc_extern Try.func82 (by kernel_rfl) (by kernel_rfl) (by kernel_rfl) (e := Extern.SlicesOverlaps.overlaps #[74, 74] #[4]) (by kernel_rfl),
    Lib.run_overlaps_apart w 74 4 78 vn_type 3 (fun w => rfl) ⟨X, 0, none⟩ ⟨b, off, none⟩ 1 1 lb cb hne 78 78 cx.length cb'.length (by simp [World.shape?, hX]) (by simp [World.shape?, hB]) h0 (by simp [World.frozen?, hX]) (by simp [World.frozen?, hX])]
  rfl
set_option maxRecDepth 100000 in
/-- a bucket put in ahead of others, where there is room -/
theorem vinsert_in {b i : Nat} (o : OwnR ve 3 w 78 base (.slice (some ⟨b, 0, none⟩) n c) n g) (hX : w.heap[X]? = some (.cells (ve x).toArray 78 (0, 0))) (hne : X ≠ b) (hn : n ≤ 1000) (hin : i < n) (hroom : n + 1 ≤ c) :
    Calls Try.prog 70 #[.slice (some ⟨b, 0, none⟩) n c, .int .i64 i, .slice (some ⟨X, 0, none⟩) 1 1] w fun e w' => ∃ c', e = .returned (.slice (some ⟨b, 0, none⟩) (n + 1) c') ∧ OwnR ve 3 w' 78 base (.slice (some ⟨b, 0, none⟩) (n + 1) c') (n + 1) (insB g i x) ∧ w.grownBy w' (some b) := by
  obtain ⟨i0, hi, hz0, hz1, hz2⟩ := info_parts vn_info
  obtain ⟨T, hg, hbb, hnc, hcm, hl⟩ := o.whole
  have hcx : ∀ j u, (ve x)[j]? = some u → w.cell? ⟨X, j, none⟩ = some u := fun j u hu => by rw [cell_of_row _ X j _ _ (0, 0) hX]; simpa using hu
  have HC := Lib.hid hcx
  have hov := fun lb cb => vov_apart w b ((i + 1) * 3) lb cb hX hg hne (by omega)
  have HG := Lib.hid hg
  have hz1' : ¬ ((i : Int) = (n : Int)) := by omega
  have hw1 : IntKind.i64.wrap ((n : Int) + 1) = (n : Int) + 1 := IntWalk.i64_in _ (by omega)
  have hw2 : IntKind.i64.wrap ((i : Int) + 1) = (i : Int) + 1 := IntWalk.i64_in _ (by omega)
  have hlr := rl_length ve_len g n
  have hsp := rl_split ve g (show i ≤ n by omega)
  obtain ⟨CS, hCS⟩ : ∃ CS, CS = rl ve (fun j => g (i + j)) (n - i) := ⟨_, rfl⟩
  have hcl : CS.length = (n - i) * 3 := by rw [hCS]; exact rl_length ve_len _ _
  rw [← hCS] at hsp
  have hT : T.length = (c - n) * 3 := by rw [List.length_append, hlr] at hl; omega
  have hal : (rl ve g i).length = i * 3 := rl_length ve_len g i
  obtain ⟨L, hL⟩ : ∃ L, L = rl ve g n ++ T := ⟨_, rfl⟩
  have hLl : L.length = c * 3 := by rw [hL]; exact hl
  rw [← hL] at hg
  have hcs : ∀ j v, CS[j]? = some v → w.cell? ((⟨b, i * 3, none⟩ : Addr).add j) = some v := fun j v hj => by
    rw [Addr.add_lit, cell_of_row _ b _ _ _ (0, 0) hg]
    have hjl := (List.getElem?_eq_some_iff.1 hj).1
    rw [List.getElem?_toArray, hL, hsp, List.append_assoc, List.getElem?_append_right (by omega), hal, Nat.add_sub_cancel_left, List.getElem?_append_left hjl]
    exact hj
  have h1c : ∀ v ∈ CS, v.oneCell' = true := by rw [hCS]; exact rl_one ve_one
  have hfin : splice (splice L ((i + 1) * 3) CS) (i * 3) (ve x) = rl ve (insB g i x) (n + 1) ++ T.drop 3 := by
    have e := splice_ins (rl ve g i) CS T (ve x) (by rw [hT, ve_len]; omega)
    rw [hal, ve_len] at e
    rw [hL, hsp, List.append_assoc, show (i + 1) * 3 = i * 3 + 3 by omega, e]
    unfold insB
    rw [rl_ins ve g x (show i ≤ n by omega), ← hCS, List.append_assoc, List.append_assoc]
  have HFIN := Lib.hid hfin
  have HCS := Lib.hid hcs
  have H1C := Lib.hid h1c
  have HHG := Lib.hid hg
  have hm1 : CS.length = Nat.min (n + 1 - i) (n - i) * 3 := by rw [hcl]; show _ = min (n + 1 - i) (n - i) * 3; omega
  have HM1 := Lib.hid hm1
  have HLL := Lib.hid hLl
  have hft : (i + 1) * 3 + CS.length ≤ L.length := by rw [hcl, hLl]; omega
  have HFT := Lib.hid hft
  have hi1 : (0 : Int) ≤ (i : Int) + 1 := by omega
  have hi2 : i ≤ n := by omega
  have hi3 : ¬ (c = i + 1) := by omega
  have hi4 : ¬ (c = i) := by omega
  have hi5 : (0 : Int) ≤ (i : Int) := by omega
  have hi6 : (i : Int) ≤ (n : Int) + 1 := by omega
  unfold maxLen at hcm
  clear o hX hcx hg hsp hal hT hL hLl hlr hcs h1c hfin hCS hcl hm1 hft hl HG
  go_enter Try.func70, Try.ntmps70
  go_wp2_with (simp only [hov])
  go_region_law (refine step_copy_k rfl (.tmp 73) (.tmp 76) 74 74 rfl vn_type hi hz1 b ((i + 1) * 3) (n - i) (c - (i + 1)) ⟨b, i * 3, none⟩ (n + 1 - i) (c - i) (by simp [Act.eval, Act.put]) (by simp [Act.eval, Act.put]) L _ HHG.out CS HM1.out HCS.out HFT.out H1C.out base w ⟨rfl, rfl, rfl, Nat.le_refl _, fun _ _ => rfl⟩ hbb ?_; intro w4 hg4 ho4 hb4)
  have HX4 : Hid (∀ j v, (ve x)[j]? = some v → w4.cell? ((⟨X, 0, none⟩ : Addr).add j) = some v) := Lib.hid fun j v hj => by
    rw [Addr.add_lit, Nat.zero_add]
    exact (World.cell?_of_block (a := ⟨X, j, none⟩) (ho4.out X hne)).trans (HC.out j v hj)
  have HL4 : Hid (i * 3 + (ve x).length ≤ (splice L ((i + 1) * 3) CS).length) := Lib.hid (by
    rw [length_splice _ _ _ HFT.out, ve_len, HLL.out]; omega)
  have hm4 : (ve x).length = Nat.min 1 (n + 1 - i) * 3 := by rw [ve_len]; show 3 = min 1 (n + 1 - i) * 3; omega
  have HM4 := Lib.hid hm4
  have HB4 := Lib.hid hb4
  have HQ4 := ho4
  clear hm4 hb4 ho4
  go_wp2_with ((with_reducible show wpList _ _ _ _ _ _); (refine wpList_copy_k rfl (.tmp 80) (.tmp 81) 74 74 rfl vn_type hi hz1 b (i * 3) (n + 1 - i) (c - i) ⟨X, 0, none⟩ 1 1 rfl rfl _ _ hg4.out (ve x) HM4.out HX4.out HL4.out (ve_one x) base w HB4.out hbb ?_; intro w5 hg5 ho5 hb5))
  go_ret
  have h5 := hg5.out
  rw [HFIN.out] at h5
  refine ⟨c, rfl, OwnR.of_block ve_len h5 hbb hroom (by unfold maxLen; omega) ?_, ⟨hb5.os, hb5.tape, hb5.output, hb5.size, fun k _ hk => (ho5.out k fun e => hk (by rw [e])).trans (HQ4.out k fun e => hk (by rw [e]))⟩⟩
  rw [← HFIN.out, length_splice _ _ _ HL4.out, length_splice _ _ _ HFT.out, HLL.out]
set_option maxRecDepth 100000 in
/-- a bucket put in ahead of others, where there is no room -/
theorem vinsert_grow {b i : Nat} (o : OwnR ve 3 w 78 base (.slice (some ⟨b, 0, none⟩) n c) n g) (hX : w.heap[X]? = some (.cells (ve x).toArray 78 (0, 0))) (hn : n ≤ 1000) (hb0 : base ≤ w.heap.size) (hin : i < n) (hroom : c < n + 1) :
    Calls Try.prog 70 #[.slice (some ⟨b, 0, none⟩) n c, .int .i64 i, .slice (some ⟨X, 0, none⟩) 1 1] w fun e w' => ∃ b2 c', e = .returned (.slice (some ⟨b2, 0, none⟩) (n + 1) c') ∧ OwnR ve 3 w' 78 base (.slice (some ⟨b2, 0, none⟩) (n + 1) c') (n + 1) (insB g i x) ∧ w.grownBy w' (some b) ∧ w.heap.size ≤ b2 := by
  obtain ⟨i0, hi, hz0, hz1, hz2⟩ := info_parts vn_info
  obtain ⟨T, hg, hbb, hnc, hcm, hl⟩ := o.whole
  have hbw : b < w.heap.size := (Array.getElem?_eq_some_iff.1 hg).1
  have hXw : X < w.heap.size := (Array.getElem?_eq_some_iff.1 hX).1
  have hcx : ∀ j u, (ve x)[j]? = some u → w.cell? ⟨X, j, none⟩ = some u := fun j u hu => by rw [cell_of_row _ X j _ _ (0, 0) hX]; simpa using hu
  have HC := Lib.hid hcx
  obtain rfl : n = c := by omega
  have hz1' : ¬ ((i : Int) = (n : Int)) := by omega
  have hz3 : (n : Int) < (n : Int) + 1 := by omega
  have hw1 : IntKind.i64.wrap ((n : Int) + 1) = (n : Int) + 1 := IntWalk.i64_in _ (by omega)
  have hw2 : IntKind.i64.wrap ((i : Int) + 1) = (i : Int) + 1 := IntWalk.i64_in _ (by omega)
  have hw3 : IntKind.i64.wrap ((n : Int) + 1 - (i : Int)) = (n : Int) + 1 - (i : Int) := IntWalk.i64_in _ (by omega)
  have hlr := rl_length ve_len g n
  have hsp := rl_split ve g (show i ≤ n by omega)
  obtain ⟨CS, hCS⟩ : ∃ CS, CS = rl ve (fun j => g (i + j)) (n - i) := ⟨_, rfl⟩
  have hcl : CS.length = (n - i) * 3 := by rw [hCS]; exact rl_length ve_len _ _
  rw [← hCS] at hsp
  obtain rfl : T = [] := List.eq_nil_of_length_eq_zero (by rw [List.length_append, hlr] at hl; omega)
  rw [List.append_nil] at hg hl
  have hal : (rl ve g i).length = i * 3 := rl_length ve_len g i
  have hcell : ∀ j v, (rl ve g n)[j]? = some v → w.cell? ⟨b, j, none⟩ = some v := fun j v hj => by
    rw [cell_of_row _ b _ _ _ (0, 0) hg, List.getElem?_toArray]; exact hj
  have hcs : ∀ j v, CS[j]? = some v → w.cell? ((⟨b, i * 3, none⟩ : Addr).add j) = some v := fun j v hj => by
    rw [Addr.add_lit]
    refine hcell _ _ ?_
    have hjl := (List.getElem?_eq_some_iff.1 hj).1
    rw [hsp, List.getElem?_append_right (by omega), hal, Nat.add_sub_cancel_left]
    exact hj
  have h1c : ∀ v ∈ CS, v.oneCell' = true := by rw [hCS]; exact rl_one ve_one
  have hold : (Builtin.firstCells i0.size i (.slice (some ⟨b, 0, none⟩) i n)).run Try.prog w.drew = .ok (rl ve g i).toArray w.drew := by
    rw [hz1]
    exact run_firstCells_some w.drew 3 i ⟨b, 0, none⟩ i n (rl ve g i) hal (fun j v hj => by
      rw [Addr.add_lit, Nat.zero_add]
      refine hcell _ _ ?_
      rw [hsp, List.getElem?_append_left (List.getElem?_eq_some_iff.1 hj).1]; exact hj)
  have hkk : (n : Int) + 1 - (i : Int) = ((n + 1 - i : Nat) : Int) := by omega
  have hik : i + (n + 1 - i) = n + 1 := by omega
  obtain ⟨G, hG⟩ : ∃ G, G = grownCap w (n + 1) n 78 := ⟨_, rfl⟩
  obtain ⟨Z, hZ⟩ : ∃ Z, Z = (Builtin.zeroCells (Value.agg #[.int .i64 0, .int .i64 0, .int .i64 0]).cells (n + 1 - i)).toList ++ (Builtin.zeroCells (Value.agg #[.int .i64 0, .int .i64 0, .int .i64 0]).cells (G - (n + 1))).toList := ⟨_, rfl⟩
  have hGn : n + 1 ≤ G := by rw [hG]; exact grownCap_ge w _ _ _
  have hGm : G ≤ maxLen := by rw [hG]; exact grownCap_le_maxLen w (n + 1) n _ (by unfold maxLen; omega)
  have hZl : Z.length = (G - i) * 3 := by
    rw [hZ, List.length_append, Array.length_toList, Array.length_toList, size_zeroCells, size_zeroCells]
    simp [Value.cells]
    omega
  have hrz : ∀ ty, (Builtin.append_ #[74, 3] ty #[.slice (some ⟨b, 0, none⟩) i n, .int .i64 ((n : Int) + 1 - (i : Int))]).run Try.prog w =
      .ok (.slice (some ⟨w.heap.size, 0, none⟩) (n + 1) G) (w.drew.alloc (.cells (rl ve g i ++ Z).toArray 78)) := fun ty => by
    have h := Lib.run_append_grow_zeros w 74 3 ty 78 i0 _ .i64 .i64 vn_type Try.underlying3 hi hz0 (some ⟨b, 0, none⟩) i n (rl ve g i) hold (n + 1 - i) (by omega) (by omega) (by omega) (by omega) (by rw [hz2]; omega) (by rw [hz2, hik]; exact growslice_fits (by omega) (by omega))
    rw [hik, ← hG] at h
    rw [hkk, h, hZ]
    congr 3
    simp
  obtain ⟨W1, hW1⟩ : ∃ W1, W1 = w.drew.alloc (.cells (rl ve g i ++ Z).toArray 78) := ⟨_, rfl⟩
  rw [← hW1] at hrz
  have K1 : Below w.heap.size w W1 := by rw [hW1]; exact (below_drew w).alloc (Nat.le_refl _) _
  have hg1 : W1.heap[w.heap.size]? = some (.cells (rl ve g i ++ Z).toArray 78 (0, 0)) := by rw [hW1]; exact heap_alloc_new w.drew _
  have hb1 : Hid (Below w.heap.size w W1) := Lib.hid K1
  have HX1 : Hid (∀ j v, (ve x)[j]? = some v → W1.cell? ((⟨X, 0, none⟩ : Addr).add j) = some v) := Lib.hid fun j v hj => by
    rw [Addr.add_lit, Nat.zero_add]
    exact (World.cell?_of_block (a := ⟨X, j, none⟩) (K1.block X hXw)).trans (hcx j v hj)
  have HCS1 : Hid (∀ j v, CS[j]? = some v → W1.cell? ((⟨b, i * 3, none⟩ : Addr).add j) = some v) := Lib.hid fun j v hj => by
    have := hcs j v hj
    rw [Addr.add_lit] at this ⊢
    exact (World.cell?_of_block (a := ⟨b, i * 3 + j, none⟩) (K1.block b hbw)).trans this
  obtain ⟨L, hL⟩ : ∃ L, L = rl ve g i ++ Z := ⟨_, rfl⟩
  rw [← hL] at hg1
  have hLl : L.length = G * 3 := by rw [hL, List.length_append, hal, hZl]; omega
  have hfin : splice (splice L (i * 3) (ve x)) ((i + 1) * 3) CS = rl ve (insB g i x) (n + 1) ++ Z.drop ((ve x).length + CS.length) := by
    have e := splice_put (rl ve g i) CS (ve x) Z
    rw [hal, ve_len, show i * 3 + 3 = (i + 1) * 3 by omega] at e
    rw [hL, e]
    unfold insB
    rw [rl_ins ve g x (show i ≤ n by omega), ← hCS, List.append_assoc, List.append_assoc, ve_len]
  have HFIN := Lib.hid hfin
  have H1C := Lib.hid h1c
  have HG1 := Lib.hid hg1
  have HLL := Lib.hid hLl
  have hm1 : (ve x).length = Nat.min 1 (n + 1 - i) * 3 := by rw [ve_len]; show 3 = min 1 (n + 1 - i) * 3; omega
  have hm2 : CS.length = Nat.min (n - i) (n - i) * 3 := by rw [hcl]; show _ = min (n - i) (n - i) * 3; omega
  have hf1 : i * 3 + (ve x).length ≤ L.length := by rw [ve_len, hLl]; omega
  have hf2 : (i + 1) * 3 + CS.length ≤ (splice L (i * 3) (ve x)).length := by rw [length_splice _ _ _ hf1, hcl, hLl]; omega
  have hsz : W1.heap.size = w.heap.size + 1 := by rw [hW1]; simp
  have HM1 := Lib.hid hm1
  have HM2 := Lib.hid hm2
  have HF1 := Lib.hid hf1
  have HF2 := Lib.hid hf2
  have hne : b ≠ w.heap.size := by omega
  have hi1 : (0 : Int) ≤ (i : Int) + 1 := by omega
  have hi2 : i ≤ n := by omega
  have hi3 : ¬ (G = i + 1) := by omega
  have hi4 : ¬ (G = i) := by omega
  have hi5 : (0 : Int) ≤ (i : Int) := by omega
  have hi6 : (i : Int) ≤ (n : Int) + 1 := by omega
  have hi7 : ¬ (n = i) := by omega
  have hi8 : (i : Int) ≤ (n : Int) := by omega
  unfold maxLen at hGm
  clear o hX hcx hg hsp hal hL hLl hlr hcs h1c hfin hCS hcl hm1 hm2 hf1 hf2 hl hcell hold hkk hik hG hZ hZl hW1 K1 hg1 hsz hroom hcm
  go_enter Try.func70, Try.ntmps70
  go_wp2_with (first
    | (at_builtin; (refine Lib.wpList_append_run _ rfl (.tmp 34) (.tmp 39) 74 3 rfl _ _ rfl rfl _ _ (hrz _) ?_))
    | ((with_reducible show wpList _ _ _ _ _ _); (refine wpList_copy_k rfl (.tmp 43) (.tmp 44) 74 74 rfl vn_type hi hz1 w.heap.size (i * 3) (n + 1 - i) (G - i) ⟨X, 0, none⟩ 1 1 rfl rfl _ _ HG1.out (ve x) HM1.out HX1.out HF1.out (ve_one x) w.heap.size w hb1.out (Nat.le_refl _) ?_; intro w4 hg4 ho4 hb4)))
  have HCS4 : Hid (∀ j v, CS[j]? = some v → w4.cell? ((⟨b, i * 3, none⟩ : Addr).add j) = some v) := Lib.hid fun j v hj => by
    have := HCS1.out j v hj
    rw [Addr.add_lit] at this ⊢
    exact (World.cell?_of_block (a := ⟨b, i * 3 + j, none⟩) (ho4.out b hne)).trans this
  have HB4 : Hid (Below w.heap.size w w4.drew) := Lib.hid hb4.drew
  clear hb4 ho4
  go_wp2
  go_region_law (refine step_copy_k rfl (.tmp 50) (.tmp 53) 74 74 rfl vn_type hi hz1 w.heap.size ((i + 1) * 3) (n - i) (G - (i + 1)) ⟨b, i * 3, none⟩ (n - i) (n - i) (by simp [Act.eval, Act.put]) (by simp [Act.eval, Act.put]) _ _ hg4.out CS HM2.out HCS4.out HF2.out H1C.out w.heap.size w HB4.out (Nat.le_refl _) ?_; intro w5 hg5 ho5 hb5)
  go_wp2
  go_ret
  have h5 := hg5.out
  rw [HFIN.out] at h5
  refine ⟨w.heap.size, G, rfl, OwnR.of_block ve_len h5 hb0 hGn (by unfold maxLen; omega) ?_, ⟨hb5.os, hb5.tape, hb5.output, hb5.size, fun k hk _ => hb5.block k hk⟩, Nat.le_refl _⟩
  rw [← HFIN.out, length_splice _ _ _ HF2.out, length_splice _ _ _ HF1.out, HLL.out]
set_option maxRecDepth 100000 in
/-- a loss put in wherever it belongs -/
theorem vinsert {i : Nat} (o : OwnR ve 3 w 78 base (.slice A n c) n g) (hX : w.heap[X]? = some (.cells (ve x).toArray 78 (0, 0))) (hne : ∀ b, A = some ⟨b, 0, none⟩ → X ≠ b) (hn : n ≤ 1000) (hb : base ≤ w.heap.size) (hin : i ≤ n) :
    Calls Try.prog 70 #[.slice A n c, .int .i64 i, .slice (some ⟨X, 0, none⟩) 1 1] w fun e w' => ∃ b c', e = .returned (.slice (some ⟨b, 0, none⟩) (n + 1) c') ∧ OwnR ve 3 w' 78 base (.slice (some ⟨b, 0, none⟩) (n + 1) c') (n + 1) (insB g i x) ∧ w.grownBy w' (Value.slice A n c).ownBlock ∧ ((Value.slice A n c).ownBlock = some b ∨ w.heap.size ≤ b) := by
  by_cases q : i = n
  · rw [q]; exact vinsert_end o hX hn hb
  · obtain ⟨b, c', e, h1, h2⟩ := own_some o (by omega)
    injection e with e1 _ e3
    subst e1 e3
    by_cases r : n + 1 ≤ c
    · refine (vinsert_in o hX (hne b rfl) hn (by omega) r).mono ?_
      rintro e w' ⟨c', rfl, h1, h2⟩
      exact ⟨b, c', rfl, h1, h2, .inl rfl⟩
    · refine (vinsert_grow o hX hn hb (by omega) (by omega)).mono ?_
      rintro e w' ⟨b2, c', rfl, h1, h2, h3⟩
      exact ⟨b2, c', rfl, h1, h2, .inr h3⟩
set_option maxRecDepth 100000 in
/-- zeros -/
theorem vn_zs_len (m : Nat) : (Builtin.zeroCells (Value.agg #[.int .i64 0, .int .i64 0, .int .i64 0]).cells m).toList.length = m * 3 := by
  rw [Array.length_toList, size_zeroCells]; rfl
set_option maxRecDepth 100000 in
theorem vn_zs_one (m : Nat) : ∀ u ∈ (Builtin.zeroCells (Value.agg #[.int .i64 0, .int .i64 0, .int .i64 0]).cells m).toList, u.oneCell' = true := by
  intro u hu
  simp only [Builtin.zeroCells, Value.cells, Array.toList_map, List.mem_map] at hu
  obtain ⟨i, _, rfl⟩ := hu
  have h : i % 3 = 0 ∨ i % 3 = 1 ∨ i % 3 = 2 := by omega
  show (#[Value.int .i64 0, .int .i64 0, .int .i64 0][i % 3]!).oneCell' = true
  rcases h with e | e | e <;> rw [e] <;> rfl
end
section
variable {P : Program} {ops : Array Oper} {o : Oper} {a : Act} {w : World} {elem : TypeId}
set_option maxRecDepth 100000 in
/-- clear, in a row that is known whole: no other block is written -/
theorem wpList_clear_o {rest : List Oper} {Q : Exit → Act → World → Prop} {z : Value} (hgd : o.guard = none) (d : Operand) (dT : TypeId)
    (ho : o.op = .call { callee := .builtin .clear, args := #[d], argTypes := #[dT] }) (hu : P.underlying dT = some (.slice elem)) (hv : ∀ w, (zeroValue elem).run P w = .ok z w) (zs : List Value)
    (g off m c : Nat) (hm : 0 < m) (hz : (Builtin.zeroCells z.cells m).toList = zs) (hd : a.eval d = .slice (some ⟨g, off, none⟩) m c)
    (cur : List Value) (t : TypeId) (hg : w.heap[g]? = some (.cells cur.toArray t (0, 0))) (hfit : off + zs.length ≤ cur.length) (h1 : ∀ v ∈ zs, v.oneCell' = true) (w0 : World) (hb : w0.grownBy w (some g))
    (h : ∀ w', Hid (w'.heap[g]? = some (.cells (splice cur off zs).toArray t (0, 0))) → Hid (w0.grownBy w' (some g)) → wpList P ops Q rest (a.put o.dst (.tuple #[])) w') :
    wpList P ops Q (o :: rest) a w := by
  obtain ⟨m, rfl⟩ : ∃ k, m = k + 1 := ⟨m - 1, by omega⟩
  refine wpList_plain hgd fun K hK => ?_
  have hst := run_storeCells_at P g off t zs 0 cur.toArray w hg (by simpa using hfit) h1
  have e : w.setRow g (splice cur off zs).toArray = w.setRow g ((cur.take off ++ zs ++ cur.drop (off + zs.length)).toArray) := by unfold splice; rw [List.append_assoc]
  simp only [Nat.add_zero] at hst
  have hrun : ∀ ty, (Builtin.clear_ #[dT] ty #[.slice (some ⟨g, off, none⟩) (m + 1) c]).run P w = .ok (.tuple #[]) (w.setRow g (splice cur off zs).toArray) := fun ty => by
    rw [e]
    simp [Builtin.clear_, run_underlying hu, hv, hz, hst]
  have hk := below_setRow (Below.refl 0 w) (Nat.zero_le g) (splice cur off zs).toArray
  unfold Oper.wp
  simp only [execOp, ho, resolve, invoke, builtin, Sem.run_bind, Sem.run_pure, Result.andThen_ok, List.map_toArray, List.map_cons, List.map_nil, hd, hrun]
  exact hK _ _ (h _ (Lib.hid (setRow_has hg _)) (Lib.hid (hb.trans ⟨hk.os, hk.tape, hk.output, hk.size, fun k _ hne => setRow_other w g k _ fun e => hne (by rw [e])⟩)))
end
section
variable {w : World} {base n c : Nat} {A : Option Addr} {g : Nat → Bk}
set_option maxRecDepth 100000 in
/-- the first ones struck out -/
theorem vdrop {k : Nat} (o : OwnR ve 3 w 78 base (.slice A n c) n g) (hn : n ≤ 1000) (hk : k ≤ n) :
    Calls Try.prog 62 #[.slice A n c, .int .i64 0, .int .i64 k] w fun e w' => e = .returned (.slice A (n - k) c) ∧ OwnR ve 3 w' 78 base (.slice A (n - k) c) (n - k) (fun j => g (k + j)) ∧ w.grownBy w' (Value.slice A n c).ownBlock := by
  by_cases k0 : k = 0
  · subst k0
    obtain ⟨A', c', e', hc1, hc2, _⟩ := o.form
    injection e' with e1 _ e3
    subst e1 e3
    have HO := Lib.hid o
    have hkn : ((0 : Nat) : Int) ≤ (n : Int) := by omega
    clear o
    go_enter Try.func62, Try.ntmps62
    go_wp2
    all_goals
      go_ret
      exact ⟨rfl, HO.out.ext fun j _ => by simp, World.grownBy.refl _ _⟩
  obtain ⟨b, c', e', _, _⟩ := own_some o (by omega)
  injection e' with e1 _ e3
  subst e1 e3
  obtain ⟨i0, hi, hz0, hz1, hz2⟩ := info_parts vn_info
  obtain ⟨T, hg, hbb, hnc, hcm, hl⟩ := o.whole
  have hlr := rl_length ve_len g n
  have hsp := rl_split ve g hk
  obtain ⟨CS, hCS⟩ : ∃ CS, CS = rl ve (fun j => g (k + j)) (n - k) := ⟨_, rfl⟩
  have hcl : CS.length = (n - k) * 3 := by rw [hCS]; exact rl_length ve_len _ _
  rw [← hCS] at hsp
  have hal : (rl ve g k).length = k * 3 := rl_length ve_len g k
  obtain ⟨L, hL⟩ : ∃ L, L = rl ve g n ++ T := ⟨_, rfl⟩
  have hLl : L.length = c * 3 := by rw [hL]; exact hl
  rw [← hL] at hg
  have hcs : ∀ j v, CS[j]? = some v → w.cell? ((⟨b, k * 3, none⟩ : Addr).add j) = some v := fun j v hj => by
    rw [Addr.add_lit, cell_of_row _ b _ _ _ (0, 0) hg]
    have hjl := (List.getElem?_eq_some_iff.1 hj).1
    rw [List.getElem?_toArray, hL, hsp, List.append_assoc, List.getElem?_append_right (by omega), hal, Nat.add_sub_cancel_left, List.getElem?_append_left hjl]
    exact hj
  have h1c : ∀ v ∈ CS, v.oneCell' = true := by rw [hCS]; exact rl_one ve_one
  obtain ⟨zs, hzs⟩ : ∃ zs, (Builtin.zeroCells (Value.agg #[.int .i64 0, .int .i64 0, .int .i64 0]).cells k).toList = zs := ⟨_, rfl⟩
  have hzl : zs.length = k * 3 := by rw [← hzs]; exact vn_zs_len k
  have hz1 : ∀ u ∈ zs, u.oneCell' = true := by rw [← hzs]; exact vn_zs_one k
  have hfit : 0 * 3 + CS.length ≤ L.length := by rw [hcl, hLl]; omega
  have hfit2 : (n - k) * 3 + zs.length ≤ (splice L (0 * 3) CS).length := by rw [length_splice _ _ _ hfit, hLl, hzl]; omega
  have hlast : ∃ T', splice (splice L (0 * 3) CS) ((n - k) * 3) zs = CS ++ T' ∧ (CS ++ T').length = c * 3 := by
    have e : splice L (0 * 3) CS = CS ++ L.drop CS.length := by
      unfold splice
      rw [Nat.zero_mul, List.take_zero, List.nil_append, Nat.zero_add]
    have hl2 := length_splice _ _ _ hfit2
    rw [length_splice _ _ _ hfit, hLl] at hl2
    have e2 : splice (CS ++ L.drop CS.length) ((n - k) * 3) zs = CS ++ (zs ++ (CS ++ L.drop CS.length).drop ((n - k) * 3 + zs.length)) := by
      unfold splice
      rw [List.take_left' hcl]
    refine ⟨zs ++ (CS ++ L.drop CS.length).drop ((n - k) * 3 + zs.length), by rw [e, e2], ?_⟩
    rw [← e2, ← e]; exact hl2
  obtain ⟨T', hT1, hT2⟩ := hlast
  rw [hCS] at hT2
  obtain ⟨off, hd⟩ : ∃ off, (c = k ∧ off = 0) ∨ (¬ c = k ∧ off = k * 3) := by
    by_cases q : c = k
    · exact ⟨0, .inl ⟨q, rfl⟩⟩
    · exact ⟨_, .inr ⟨q, rfl⟩⟩
  have hcs' : ∀ j v, CS[j]? = some v → w.cell? ((⟨b, off, none⟩ : Addr).add j) = some v := by
    rcases hd with ⟨q, _⟩ | ⟨_, rfl⟩
    · intro j v hj
      obtain rfl : CS = [] := List.eq_nil_of_length_eq_zero (by omega)
      cases hj
    · exact hcs
  have HG := Lib.hid hg
  have HCL := Lib.hid hcl
  have HCS := Lib.hid hcs'
  have H1C := Lib.hid h1c
  have HF1 := Lib.hid hfit
  have HF2 := Lib.hid hfit2
  have HT1 := Lib.hid hT1
  have HT2 := Lib.hid hT2
  have HMM := Lib.hid hcm
  have HZ1 := Lib.hid hz1
  have HZS := Lib.hid hzs
  have HEC := Lib.hid hCS
  have HNK : Hid (n - k ≤ c) := Lib.hid (by omega)
  have hi5 : (0 : Int) ≤ (k : Int) := by omega
  have hi6 : (k : Int) ≤ (n : Int) := by omega
  have hi1 : ((n - k : Nat) : Int) ≤ (n : Int) := by omega
  have hi2 : n - (n - k) = k := by omega
  have hi3 : ¬ (c = n - k) := by omega
  have hi4 : k ≤ c := by omega
  have hi7 : ¬ ((0 : Int) = (k : Int)) := by omega
  have hi9 : n - k ≤ n := by omega
  have HR : Hid (0 + (n - k) ≤ c) := Lib.hid (by omega)
  have HEQ : Hid (0 + (n - k) = n - k) := Lib.hid (by omega)
  have HK0 : Hid (0 < k) := Lib.hid (by omega)
  clear o hg hl hlr hsp hCS hcl hal hL hLl hcs hcs' h1c hfit hfit2 hT1 hT2 hcm hz1 hzs hzl k0
  rcases hd with ⟨hc, rfl⟩ | ⟨hc, rfl⟩
  · subst hc
    obtain rfl : n = c := by omega
    obtain rfl : CS = [] := List.eq_nil_of_length_eq_zero (by have := HCL.out; omega)
    have esp : splice L (0 * 3) [] = L := by unfold splice; simp
    rw [Nat.sub_self] at *
    rw [esp] at HF2 HT1
    clear esp
    go_enter Try.func62, Try.ntmps62
    go_wp2
    go_region_law (fail)
    go_wp2_with ((with_reducible show wpList _ _ _ _ _ _); (refine wpList_clear_o rfl (.tmp 31) 74 rfl vn_type (fun w => vn_zero w) _ b (0 * 3) n _ HK0.out HZS.out rfl _ _ HG.out HF2.out HZ1.out w ⟨rfl, rfl, rfl, Nat.le_refl _, fun _ _ _ => rfl⟩ ?_; intro w5 hg5 hb5))
    go_ret
    have h5 := hg5.out
    rw [HT1.out, HEC.out] at h5
    exact ⟨rfl, OwnR.of_block ve_len h5 hbb HNK.out HMM.out HT2.out, hb5.out⟩
  · have hc' := Lib.hid hc
    go_enter Try.func62, Try.ntmps62
    go_wp2
    go_region_law (refine step_append_k rfl (.tmp 22) (.tmp 25) 74 rfl vn_type hi hz1 b 0 c _ (n - k) (c - k) (by simp [Act.eval, Act.put]) (by simp [Act.eval, Act.put]) L HG.out CS HCL.out HR.out HCS.out HF1.out H1C.out 0 w ⟨rfl, rfl, rfl, Nat.le_refl _, fun _ _ => rfl⟩ (Nat.zero_le _) ?_; intro w4 hg4 ho4 hb4; rw [HEQ.out])
    go_wp2_with ((with_reducible show wpList _ _ _ _ _ _); (refine wpList_clear_o rfl (.tmp 31) 74 rfl vn_type (fun w => vn_zero w) _ b ((n - k) * 3) k _ HK0.out HZS.out rfl _ _ hg4.out HF2.out HZ1.out w ⟨hb4.os, hb4.tape, hb4.output, hb4.size, fun q _ hq => ho4.out q fun e => hq (by rw [e])⟩ ?_; intro w5 hg5 hb5))
    go_ret
    have h5 := hg5.out
    rw [HT1.out, HEC.out] at h5
    exact ⟨rfl, OwnR.of_block ve_len h5 hbb HNK.out HMM.out HT2.out, hb5.out⟩
end
end Go.Proofs.Ytmlafdehhbhbiaa

/- Package vintage: rows of which nothing is left are struck out (slices.IndexFunc, slices.DeleteFunc walked): a contract for each. -/
namespace Go.Proofs.Ytmlafdehhbhbiaa
open Go.RowKit

set_option maxRecDepth 100000 in
theorem vused_any (x : Bk) (w : World) : Calls Try.prog 67 #[va x] w fun e w' => e = .returned (.bool (x.a == 0)) ∧ Below w.heap.size w w' := by
  obtain ⟨c, y, a⟩ := x
  simp only [va] at *
  go_enter Try.func67, Try.ntmps67
  go_wp2
  go_ret
  exact ⟨rfl, (Below.refl _ _).alloc (Nat.le_refl _) _⟩
set_option maxRecDepth 100000 in
theorem vindex (A : Option Addr) (n c : Nat) (g : Nat → Bk) (w : World) (hr : AtR ve 3 w A n g) (hn : n ≤ 1000000) (hnc : n ≤ c) :
    Calls Try.prog 79 #[.slice A n c, .func (.func 67) #[] #[]] w fun e w' => ∃ p : Nat, p ≤ n ∧ (∀ j, j < p → (g j).a ≠ 0) ∧ ((p = n ∧ e = .returned (.int .i64 (-1))) ∨ (p < n ∧ (g p).a = 0 ∧ e = .returned (.int .i64 p))) ∧ Below w.heap.size w w' := by
  have HR := Lib.hid hr
  clear hr
  go_enter Try.func79, Try.ntmps79
  go_wp2
  go_loopg [5, 8] n (fun gh _ i wr => ∃ k : Nat, k ≤ n ∧ gh = n - k ∧ i = .int .i64 k ∧ (∀ j, j < k → (g j).a ≠ 0) ∧ Below w.heap.size w wr)
  case atStart => exact ⟨0, Nat.zero_le _, rfl, rfl, fun j hj => absurd hj (Nat.not_lt_zero _), Below.refl _ _⟩
  case round =>
    obtain ⟨k, hk, hgk, rfl, h0, hbw⟩ := hrel
    have HGK := Lib.hid hgk
    have HB := Lib.hid hbw
    have H0 := Lib.hid h0
    clear hgk hbw h0
    by_cases hlt : k < n
    · obtain ⟨b, off, rfl, hb, c0, c1, c2⟩ := (HR.out.below HB.out).threeV hlt
      have CL := Lib.hid (vused_any (g k) wr)
      by_cases hq : (g k).a = 0
      · have HQ := Lib.hid hq
        rw [show ((g k).a == 0) = true by simpa using hq] at CL
        clear hq
        go_wp2_with (go_at_call 67; (refine (CL.out).mono ?_); rintro e w' ⟨rfl, hb'⟩; have HB2 := Lib.hid (HB.out.trans (hb'.mono HB.out.size)); clear hb')
        go_ret
        exact ⟨k, by omega, H0.out, .inr ⟨hlt, HQ.out, rfl⟩, HB2.out⟩
      · have HQ := Lib.hid hq
        rw [show ((g k).a == 0) = false by simpa using hq] at CL
        clear hq
        go_wp2_with (go_at_call 67; (refine (CL.out).mono ?_); rintro e w' ⟨rfl, hb'⟩; have HB2 := Lib.hid (HB.out.trans (hb'.mono HB.out.size)); clear hb')
        go_roundg (n - (k + 1))
        case measure => have := HGK.out; omega
        case rel => exact ⟨k + 1, by omega, rfl, by go_num, fun j hj => by
            by_cases e : j = k
            · rw [e]; exact HQ.out
            · exact H0.out j (by omega), HB2.out⟩
    · obtain rfl : k = n := by omega
      clear hlt
      go_wp2
      go_ret
      exact ⟨k, Nat.le_refl _, H0.out, .inl ⟨rfl, rfl⟩, HB.out⟩
section
variable {w : World} {base n c k : Nat} {A : Option Addr} {g G h : Nat → Bk} {x : Bk}
set_option maxRecDepth 100000 in
theorem flt_all (hok : ∀ j, j < n → VOk (G j).c (G j).y) (hasc : ∀ i j, i < j → j < n → Bl (G i).c (G i).y (G j).c (G j).y) (hk : k ≤ n) (hz : ∀ j, j < k → (G j).a ≠ 0) : Flt n G k k G :=
  ⟨⟨fun j hj => hok j (by omega), hz, fun i j hi hj => hasc i j hi (by omega)⟩, fun _ _ => rfl, rfl, fun i j hi hj hn => hasc i j (by omega) hn, Nat.le_refl _⟩
set_option maxRecDepth 100000 in
/-- a whole row is written -/
theorem OwnR.set3 {b i : Nat} (o : OwnR ve 3 w 78 base (.slice (Option.some ⟨b, 0, none⟩) n c) n g) (hi : i < n) (x : Bk) :
    OwnR ve 3 (((w.setCell ⟨b, i * 3, none⟩ (.int .i64 x.y)).setCell ⟨b, i * 3 + 1, none⟩ (.int .i64 x.c)).setCell ⟨b, i * 3 + 2, none⟩ (.int .i64 x.a)) 78 base (.slice (Option.some ⟨b, 0, none⟩) n c) n (fun j => if j = i then x else g j) := by
  have h1 := o.setc ve_len i 0 ⟨(g i).c, x.y, (g i).a⟩ (.int .i64 x.y) hi (by decide) (fun d hd => by
    match d, hd with
    | 0, h => exact absurd rfl h
    | 1, _ => rfl
    | 2, _ => rfl
    | d + 3, _ => rfl) rfl
  rw [Nat.add_zero] at h1
  have h2 := h1.setc ve_len i 1 ⟨x.c, x.y, (g i).a⟩ (.int .i64 x.c) hi (by decide) (fun d hd => by
    rw [if_pos rfl]
    match d, hd with
    | 0, _ => rfl
    | 1, h => exact absurd rfl h
    | 2, _ => rfl
    | d + 3, _ => rfl) rfl
  have h3 := h2.setc ve_len i 2 x (.int .i64 x.a) hi (by decide) (fun d hd => by
    rw [if_pos rfl]
    match d, hd with
    | 0, _ => rfl
    | 1, _ => rfl
    | 2, h => exact absurd rfl h
    | d + 3, _ => rfl) rfl
  refine h3.ext fun j hj => ?_
  by_cases e : j = i
  · rw [if_pos e, if_pos e]
  · rw [if_neg e, if_neg e, if_neg e, if_neg e]
set_option maxRecDepth 100000 in
theorem grown_set3 {w' : World} {b i : Nat} {u v z : Value} (k : w.grownBy w' (some b)) : w.grownBy (((w'.setCell ⟨b, i * 3, none⟩ u).setCell ⟨b, i * 3 + 1, none⟩ v).setCell ⟨b, i * 3 + 2, none⟩ z) (some b) := by
  have s : ∀ (w : World) (o : Nat) (u : Value), w.grownBy (w.setCell ⟨b, o, none⟩ u) (some b) := fun w o u =>
    have z := (Below.refl 0 w).setCell (p := ⟨b, o, none⟩) (Nat.zero_le _) u
    ⟨z.os, z.tape, z.output, z.size, fun k _ hk => Below.heap_setCell _ _ _ _ fun e => hk (by rw [e])⟩
  exact ((k.trans (s _ _ _)).trans (s _ _ _)).trans (s _ _ _)
set_option maxRecDepth 100000 in
theorem grown_below {w1 w2 : World} {r : Option Nat} (k : w.grownBy w1 r) (hb : Below w1.heap.size w1 w2) : w.grownBy w2 r :=
  k.trans ⟨hb.os, hb.tape, hb.output, hb.size, fun i hi _ => hb.block i hi⟩
set_option maxHeartbeats 4000000 in
set_option maxRecDepth 100000 in
/-- those of which nothing is left are struck out -/
theorem vdelfn (o : OwnR ve 3 w 78 base (.slice A n c) n G) (hn : n ≤ 1000) (hok : ∀ j, j < n → VOk (G j).c (G j).y) (hasc : ∀ i j, i < j → j < n → Bl (G i).c (G i).y (G j).c (G j).y) :
    Calls Try.prog 66 #[.slice A n c, .func (.func 67) #[] #[]] w fun e w' => ∃ m h, e = .returned (.slice A m c) ∧ OwnR ve 3 w' 78 base (.slice A m c) m h ∧ Flt n G n m h ∧ w.grownBy w' (Value.slice A n c).ownBlock := by
  obtain ⟨A', c', e', hc1, hc2, _, hat⟩ := o.at ve_len
  injection e' with e1 _ e3
  subst e1 e3
  have CI := Lib.hid (vindex A n c G w hat (by omega) hc1)
  have HO := Lib.hid o
  have HOK := Lib.hid hok
  have HASC := Lib.hid hasc
  clear o hat hok hasc
  go_enter Try.func66, Try.ntmps66
  go_wp2_with fail
  refine (CI.out).mono ?_
  rintro e w1 ⟨p, hp, hnz, hr, hb⟩
  have HB := Lib.hid hb
  have HNZ := Lib.hid hnz
  clear hb hnz CI
  rcases hr with ⟨rfl, rfl⟩ | ⟨hpn, hpz, rfl⟩
  · go_wp2
    go_ret
    exact ⟨p, G, rfl, HO.out.below HB.out, flt_all HOK.out HASC.out (Nat.le_refl _) HNZ.out, grown_below (World.grownBy.refl _ _) HB.out⟩
  obtain ⟨b, c', e', _, _⟩ := own_some HO.out (by omega)
  injection e' with e1 _ e3
  subst e1 e3
  have ep : (((p : Int)) == -1) = false := by first | (simp; done) | (simp; omega)
  have HPZ := Lib.hid hpz
  have HN := Lib.hid hn
  have HC1 := Lib.hid hc1
  have HC2 := Lib.hid hc2
  clear hpz hn hc1 hc2
  go_wp2
  go_loopg [5, 6] (n - (p + 1)) (fun gh s5 s6 wr => ∃ (k m : Nat) (f h : Nat → Bk), k ≤ n ∧ m < k ∧ gh = n - k ∧ s6 = .int .i64 k ∧ s5 = .int .i64 m ∧ Flt n G k m h ∧ (∀ j, j < m → f j = h j) ∧ (∀ j, k ≤ j → j < n → f j = G j) ∧ OwnR ve 3 wr 78 base (.slice (some ⟨b, 0, none⟩) n c) n f ∧ w.grownBy wr (some b))
  case atStart =>
    have hn := HN.out
    exact ⟨p + 1, p, G, G, by omega, by omega, rfl, (by refine congrArg _ ?_; unfold wrap64; omega), rfl, (flt_all HOK.out HASC.out (by omega) HNZ.out).skip HPZ.out, fun _ _ => rfl, fun _ _ _ => rfl, HO.out.below HB.out, grown_below (World.grownBy.refl _ _) HB.out⟩
  case round =>
    obtain ⟨k, m, f, h, hk, hmk, hgk, rfl, rfl, hf, hf1, hf2, ho, hgw⟩ := hrel
    have HGK := Lib.hid hgk
    have HF := Lib.hid hf
    have HF1 := Lib.hid hf1
    have HF2 := Lib.hid hf2
    have HOW := Lib.hid ho
    have HGW := Lib.hid hgw
    clear hgk hf hf1 hf2 ho hgw
    by_cases hlt : k < n
    · have hmn : m < n := by omega
      obtain ⟨_, _, e, _, _, hbb, hbs, hcell, hfz⟩ := HOW.out.some ve_len (by omega)
      injection e with e1 _ e3
      injection e1 with e1
      injection e1 with e1
      subst e1 e3
      have k0 := hcell k hlt 0 _ rfl
      have k1 := hcell k hlt 1 _ rfl
      have k2 := hcell k hlt 2 _ rfl
      rw [HF2.out k (Nat.le_refl _) hlt] at k0 k1 k2
      rw [Nat.add_zero] at k0
      have m0 := hcell m hmn 0 _ rfl
      have m1 := hcell m hmn 1 _ rfl
      have m2 := hcell m hmn 2 _ rfl
      rw [Nat.add_zero] at m0
      have z0 := hfz (m * 3)
      have z1 := hfz (m * 3 + 1)
      have z2 := hfz (m * 3 + 2)
      have i1 : (0 : Int) ≤ (k : Int) := by omega
      have i2 : (k : Int) < (n : Int) := by omega
      have i3 : (0 : Int) ≤ (m : Int) := by omega
      have i4 : (m : Int) < (n : Int) := by omega
      have CL := Lib.hid fun w => vused_any (G k) w
      clear hcell hfz
      have hn := HN.out
      by_cases hq : (G k).a = 0
      · have HQ := Lib.hid hq
        rw [show ((G k).a == 0) = true by simpa using hq] at CL
        clear hq
        go_wp2_with (go_at_call 67; (refine (CL.out _).mono ?_); rintro e w' ⟨rfl, hb'⟩; have HO2 := Lib.hid ((HOW.out.alloc _).below hb'); have HG2 := Lib.hid (grown_below (HGW.out.trans (World.grownBy_alloc _ _ _)) hb'); clear hb')
        go_roundg (n - (k + 1))
        case measure => have := HGK.out; omega
        case rel => exact ⟨k + 1, m, f, h, by omega, by omega, rfl, by go_num, rfl, HF.out.skip HQ.out, HF1.out, fun j h1 h2 => HF2.out j (by omega) h2, HO2.out, HG2.out⟩
      · have HQ := Lib.hid hq
        rw [show ((G k).a == 0) = false by simpa using hq] at CL
        clear hq
        have bm : b < wr.heap.size := hbs
        go_wp2_with (go_at_call 67; (refine (CL.out _).mono ?_); rintro e w' ⟨rfl, hb'⟩; have v0 := cell_keep (rec_lit wr (ve (G k)) 78 wr.heap.size rfl 0 _ rfl) hb'; have v1 := cell_keep (rec_lit wr (ve (G k)) 78 wr.heap.size rfl 1 _ rfl) hb'; have v2 := cell_keep (rec_lit wr (ve (G k)) 78 wr.heap.size rfl 2 _ rfl) hb'; have HO2 := Lib.hid ((HOW.out.alloc _).below hb'); have HG2 := Lib.hid (grown_below (HGW.out.trans (World.grownBy_alloc _ _ _)) hb'); clear hb'; obtain ⟨_, _, e, _, _, _, hbs2, hcell, hfz⟩ := HO2.out.some ve_len (by omega); injection e with e1 _ e3; injection e1 with e1; injection e1 with e1; subst e1 e3; have n0 := hcell m hmn 0 _ rfl; have n1 := hcell m hmn 1 _ rfl; have n2 := hcell m hmn 2 _ rfl; rw [Nat.add_zero] at n0; have y0 := hfz (m * 3); have y1 := hfz (m * 3 + 1); have y2 := hfz (m * 3 + 2); clear hcell hfz)
        go_roundg (n - (k + 1))
        case measure => have := HGK.out; omega
        case rel => exact ⟨k + 1, m + 1, _, pushB h m (G k), by omega, by omega, rfl, by go_num, by go_num, HF.out.keep hlt HOK.out HASC.out HQ.out, fun j hj => (by
            by_cases e : j = m
            · rw [e, if_pos rfl, pushB_at]
            · rw [if_neg e, pushB_ne h _ e]; exact HF1.out j (by omega)), fun j h1 h2 => (by rw [if_neg (by omega)]; exact HF2.out j (by omega) h2), HO2.out.set3 hmn (G k), grown_set3 HG2.out⟩
    · obtain rfl : k = n := by omega
      have hmn : m < k := hmk
      obtain ⟨T, hg, hbb, hnc, hcm, hl⟩ := HOW.out.whole
      have hlr := rl_length ve_len f k
      have hfs : rl ve f m = rl ve h m := rl_ext HF1.out
      obtain ⟨zs, hzs⟩ : ∃ zs, (Builtin.zeroCells (Value.agg #[.int .i64 0, .int .i64 0, .int .i64 0]).cells (k - m)).toList = zs := ⟨_, rfl⟩
      have hzl : zs.length = (k - m) * 3 := by rw [← hzs]; exact vn_zs_len _
      have hzz : ∀ u ∈ zs, u.oneCell' = true := by rw [← hzs]; exact vn_zs_one _
      have hfit : m * 3 + zs.length ≤ (rl ve f k ++ T).length := by rw [hl, hzl]; omega
      have hlast : splice (rl ve f k ++ T) (m * 3) zs = rl ve h m ++ (zs ++ (rl ve f k ++ T).drop (m * 3 + zs.length)) := by
        unfold splice
        rw [← hfs, List.take_append_of_le_length (by rw [hlr]; omega), rl_take ve_len f (by omega)]
      have hl2 := length_splice _ _ _ hfit
      rw [hl, hlast] at hl2
      have HG := Lib.hid hg
      have HFIT := Lib.hid hfit
      have HZZ := Lib.hid hzz
      have HZS := Lib.hid hzs
      have HLAST := Lib.hid hlast
      have HL2 := Lib.hid hl2
      have HMC : Hid (m ≤ c) := Lib.hid (by omega)
      have HCM := Lib.hid hcm
      have HKM : Hid (0 < k - m) := Lib.hid (by omega)
      have i1 : (0 : Int) ≤ (m : Int) := by omega
      have i2 : (m : Int) ≤ (k : Int) := by omega
      have i3 : ¬ (c = m) := by omega
      have i4 : m ≤ c := by omega
      have i5 : (m : Int) ≤ (c : Int) := by omega
      clear hlt hg hlr hfs hzs hzl hzz hfit hlast hl2 hl hcm hnc hmk
      go_wp2_with ((with_reducible show wpList _ _ _ _ _ _); (refine wpList_clear_o rfl (.tmp 38) 74 rfl vn_type (fun w => vn_zero w) _ b (m * 3) (k - m) _ HKM.out HZS.out rfl _ _ HG.out HFIT.out HZZ.out w HGW.out ?_; intro w5 hg5 hb5))
      go_ret
      have h5 := hg5.out
      rw [HLAST.out] at h5
      exact ⟨m, h, rfl, OwnR.of_block ve_len h5 hbb HMC.out HCM.out HL2.out, HF.out, hb5.out⟩
end
end Go.Proofs.Ytmlafdehhbhbiaa

/- Package vintage: New, Left, Rows, Add, Expire, Take, Clone, as the laws meet them: a contract for each. -/
namespace Go.Proofs.Ytmlafdehhbhbiaa
open Go.RowKit

/-- the program's losses in a law's hands -/
abbrev NowV (w0 w : World) (O : Nat → Nat) (t sb : Nat) (S : Int → Int → Int) : Prop := NowL w0 w O t sb S
section
variable {w0 w w1 : World} {O O1 : Nat → Nat} {base t t' sb n m : Nat} {v v' : Value} {g h : Nat → Bk} {S : Int → Int → Int} {c y a : Int}
theorem NowV.below (h : NowV w0 w O t sb S) (k : Below w.heap.size w w1) : NowV w0 w1 O t sb S := NowL.below h k
theorem NowV.step (h : NowV w0 w O t sb S) (k : Step w0.heap.size O t' w O1 w1) (h1 : t ≠ t') (h2 : t' ≠ 0) : NowV w0 w1 O1 t sb S := NowL.step h k h1 h2
theorem NowV.told (h : NowV w0 w O t sb S) : ∃ n g, VInv S n g := NowL.told h
/-- rows of the object's own were written, or lie anew; they become the losses' -/
theorem LV.grows (s : LV w O base t sb v n g) (fn : Fin0 base O w) (hg : w.grownBy w1 v.ownBlock) (o : OwnR ve 3 w1 78 base v' m h) (hat : ∀ b, v'.ownBlock = some b → v.ownBlock = some b ∨ w.heap.size ≤ b) :
    ∃ O', LV (w1.setCell ⟨sb, 0, none⟩ v') O' base t sb v' m h ∧ Step base O t w O' (w1.setCell ⟨sb, 0, none⟩ v') := by
  have hv : ∀ b, v.ownBlock = some b → O b = t := fun b hb => (s.row.tag b hb).1
  have lt := s.hd.lt
  have hblk : w1.heap[sb]? = w.heap[sb]? := hg.block sb lt fun e => (s.row.tag sb e.symm).2 rfl
  have key : ∃ O1, Step base O t w O1 w1 ∧ O1 sb = O sb ∧ ∀ b, v'.ownBlock = some b → O1 b = t ∧ b ≠ sb := by
    cases e : v'.ownBlock with
    | none =>
      refine ⟨O, ⟨⟨hg.os, hg.tape, hg.output, hg.size, fun k hk hne => hg.block k hk fun q => hne (hv k q.symm)⟩, fun _ _ => rfl, fn.1, fun k hk => fn.2 k (Nat.le_trans hg.size hk)⟩, rfl, fun b hb => by cases hb⟩
    | some b =>
      have hl := World.ownsRow.lt o b e
      have hne : b ≠ sb := by
        rcases hat b e with q | q
        · exact (s.row.tag b q).2
        · omega
      refine ⟨mark O t b, ?_, mark_ne _ _ (fun q => hne q.symm), fun b' hb => by injection hb with hb; subst hb; exact ⟨mark_at _ _ _, hne⟩⟩
      rcases hat b e with q | q
      · exact Step.grown fn hg hv (H := w.heap.size) (.inl q) (Nat.le_refl _) hl.1 hl.2
      · exact Step.grown fn hg hv (H := b) (.inr rfl) q hl.1 hl.2
  obtain ⟨O1, st, ho, htag⟩ := key
  have hd1 : Head w1 O1 t sb [v] := s.hd.block hblk hg.size ho
  have k2 := Step.set (t := t) st.fin 0 v' hd1.tag
  exact ⟨O1, ⟨hd1.set 0 v' (by simp), ⟨own_blocks o fun b hb => Below.heap_setCell _ _ _ _ (htag b hb).2, htag⟩⟩, st.trans k2⟩
/-- what is left of one loss is written -/
theorem LV.put {b cc i : Nat} (s : LV w O base t sb (.slice (some ⟨b, 0, none⟩) n cc) n g) (fn : Fin0 base O w) (hi : i < n) (x : Int) :
    LV (w.setCell ⟨b, i * 3 + 2, none⟩ (.int .i64 x)) O base t sb (.slice (some ⟨b, 0, none⟩) n cc) n (repB g i ⟨(g i).c, (g i).y, x⟩) ∧ Step base O t w O (w.setCell ⟨b, i * 3 + 2, none⟩ (.int .i64 x)) := by
  have tg := s.row.tag b rfl
  have o := s.own.setc ve_len i 2 ⟨(g i).c, (g i).y, x⟩ (.int .i64 x) hi (by decide) (fun d hd => by
    match d, hd with
    | 0, _ => rfl
    | 1, _ => rfl
    | 2, h => exact absurd rfl h
    | d + 3, _ => rfl) rfl
  exact ⟨⟨s.hd.block (Below.heap_setCell _ _ _ _ (fun e => tg.2 e.symm)) (by simp) rfl, ⟨o, s.row.tag⟩⟩, Step.set fn _ _ tg.1⟩
theorem pvnew (w0 w : World) (O : Nat → Nat) (fn : Fin0 w0.heap.size O w) (lo : Below w0.heap.size w0 w) (t : Nat) :
    Calls Try.prog 15 #[] w fun e w' => ∃ sb O', e = .returned (ptr sb) ∧ NowV w0 w' O' t sb (fun _ _ => 0) ∧ ∀ t', Step w0.heap.size O t' w O' w' := by
  have HF := Lib.hid fn
  have HL := Lib.hid lo
  clear fn lo
  go_enter Try.func15, Try.ntmps15
  go_wp2
  go_ret
  obtain ⟨a, b⟩ := nowl_new w0 w O HF.out HL.out 76 t
  exact ⟨_, _, rfl, a, b⟩
theorem vleft (s : LV w O base t sb v n g) (hn : n ≤ 1000) (hg : ∀ j, j < n → Mon (g j).a) :
    Calls Try.prog 10 #[ptr sb] w fun e w' => e = .returned (.int .i64 (btot g n)) ∧ Below w.heap.size w w' := by
  have c0 := s.hd.c0
  obtain ⟨A, cc, rfl, hc, hm, _, ha⟩ := s.at
  have HA := Lib.hid ha
  have HG := Lib.hid hg
  clear s ha hg
  go_enter Try.func10, Try.ntmps10
  go_wp2
  go_loopg [3, 11] n (fun gh x i wr => ∃ k : Nat, k ≤ n ∧ gh = n - k ∧ i = .int .i64 k ∧ x = .int .i64 (btot g k) ∧ Below w.heap.size w wr)
  case atStart => exact ⟨0, Nat.zero_le _, rfl, rfl, rfl, Below.refl _ _⟩
  case round =>
    obtain ⟨k, hk, hgk, rfl, rfl, hbw⟩ := hrel
    have HGK := Lib.hid hgk
    have HW := Lib.hid hbw
    have tb := tot_bd (fun j => (g j).a) k fun j hj => HG.out j (by omega)
    obtain ⟨T, hT⟩ : ∃ T, btot g k = T := ⟨_, rfl⟩
    rw [show tot (fun j => (g j).a) k = T from hT] at tb
    rw [hT]
    have HT := Lib.hid hT
    clear hgk hbw hT
    by_cases hlt : k < n
    · obtain ⟨b, off, rfl, hb, c0, c1, c2⟩ := (HA.out.below HW.out).threeV hlt
      have hx := HG.out k hlt
      obtain ⟨x, hx'⟩ : ∃ x, (g k).a = x := ⟨_, rfl⟩
      rw [hx'] at c2 hx
      have HX := Lib.hid hx'
      clear hx'
      unfold Mon at hx
      obtain ⟨x1, x2⟩ := hx
      obtain ⟨t1, t2⟩ := tb
      have ew : IntKind.i64.wrap (T + x) = T + x := IntWalk.i64_in _ (by omega)
      clear t1 t2
      go_wp2
      go_roundg (n - (k + 1))
      case measure => have := HGK.out; omega
      case rel => exact ⟨k + 1, by omega, rfl, by go_num, by rw [← HT.out, ← HX.out]; rfl, HW.out.alloc HW.out.size _⟩
    · obtain rfl : k = n := by omega
      clear hlt tb
      go_wp2
      go_ret
      exact ⟨congrArg (fun x => Ending.returned (.int .i64 x)) HT.out.symm, HW.out⟩
theorem pvleft (h : NowV w0 w O t sb S) {m : Nat} {g' : Nat → Bk} (b : VIs S m g') :
    Calls Try.prog 10 #[ptr sb] w fun e w' => e = .returned (.int .i64 (btot g' m)) ∧ Below w.heap.size w w' := by
  obtain ⟨v, n, g, s, iv⟩ := h.st
  rw [← iv.is.total b]
  exact vleft s (by have := iv.le; omega) fun j hj => iv.mon hj
theorem pvrows (h : NowV w0 w O t sb S) {m : Nat} {g' : Nat → Bk} (b : VIs S m g') :
    Calls Try.prog 41 #[ptr sb] w fun e w' => ∃ A c, e = .returned (.slice A m c) ∧ m ≤ c ∧ c ≤ maxLen ∧ OwnR ve 3 w' 78 w.heap.size (.slice A m c) m g' ∧ Below w.heap.size w w' := by
  obtain ⟨v, n, g, s, iv⟩ := h.st
  obtain ⟨rfl, he⟩ := iv.is.uniq b
  have hn := iv.le
  have c0 := s.hd.c0
  obtain ⟨A, cc, rfl, hc, hm, _, ha⟩ := s.at
  have C1 := Lib.hid (vclone _ n _ g w s.own (by omega))
  have HE := Lib.hid he
  clear s ha iv h b he
  go_enter Try.func41, Try.ntmps41
  go_wp2_with fail
  refine (C1.out).mono ?_
  rintro e w1 ⟨v1, rfl, ho, hb1⟩
  obtain ⟨A1, c1, rfl, h1, h2, _⟩ := ho.form
  go_wp2
  go_ret
  exact ⟨_, _, rfl, h1, h2, ho.ext HE.out, hb1⟩
theorem pvclone (h : NowV w0 w O t sb S) (t' : Nat) :
    Calls Try.prog 38 #[ptr sb] w fun e w' => ∃ sb' O', e = .returned (ptr sb') ∧ NowV w0 w' O' t' sb' S ∧ ∀ t2, Step w0.heap.size O t2 w O' w' := by
  have HF := Lib.hid h.fin
  have HL := Lib.hid h.low
  obtain ⟨n, g, iv⟩ := h.told
  have HI := Lib.hid iv
  have C1 := Lib.hid (pvrows h iv.is)
  clear h iv
  go_enter Try.func38, Try.ntmps38
  go_wp2_with fail
  refine (C1.out).mono ?_
  rintro e w5 ⟨A5, c5, rfl, _, _, ho, hb⟩
  have HO5 := Lib.hid ho
  have K4 := Lib.hid hb
  clear ho hb C1
  go_wp2
  go_ret
  obtain ⟨O1, m1, st1⟩ := fresh_marked HF.out HL.out.size K4.out HO5.out t'
  have z5 : w0.heap.size ≤ w5.heap.size := Nat.le_trans HL.out.size K4.out.size
  refine ⟨w5.heap.size, mark O1 t' w5.heap.size, rfl, ⟨⟨_, n, g, ⟨Head.new w5 O1 t' _ _, ⟨own_mono (World.ownsRow.alloc HO5.out _) HL.out.size, fun b hb => ?_⟩⟩, HI.out⟩, (Step.made (t := t') (st1 0).fin z5 (.cells #[.slice A5 n c5] 76) 0).fin, (HL.out.trans (K4.out.mono HL.out.size)).alloc z5 _⟩, fun t2 => (st1 t2).trans (Step.made (st1 t2).fin z5 _ t2)⟩
  have := m1 b hb
  exact ⟨(mark_ne _ _ (by omega)).trans this.1, by omega⟩
theorem vright_yes (c y : Int) (w : World) (h : VOk c y) : Calls Try.prog 68 #[.int .i64 y, .int .i64 c] w fun e w' => e = .returned (.bool true) ∧ w = w' := by
  obtain ⟨h1, h2, h3, h4⟩ := h
  go_enter Try.func68, Try.ntmps68
  go_wp2
  all_goals
    go_ret
    exact ⟨ret_b (by first | rfl | (simp; omega)), rfl⟩
theorem vright_no (c y : Int) (w : World) (h : ¬ VOk c y) : Calls Try.prog 68 #[.int .i64 y, .int .i64 c] w fun e w' => e = .returned (.bool false) ∧ w = w' := by
  unfold VOk at h
  rcases (show y < 0 ∨ (0 ≤ y ∧ 99 < y) ∨ (0 ≤ y ∧ y ≤ 99 ∧ c < y) ∨ (0 ≤ y ∧ y ≤ 99 ∧ y ≤ c ∧ 198 < c) by omega) with q | ⟨q1, q2⟩ | ⟨q1, q2, q3⟩ | ⟨q1, q2, q3, q4⟩
  all_goals
    clear h
    go_enter Try.func68, Try.ntmps68
    go_wp2
    all_goals
      go_ret
      exact ⟨ret_b (by first | rfl | (simp; omega)), rfl⟩
theorem vmny_yes (n : Int) (w : World) (h : Mon n) : Calls Try.prog 20 #[.int .i64 n] w fun e w' => e = .returned (.bool true) ∧ w = w' := money_yes n w h.1 h.2
theorem vmny_no (n : Int) (w : World) (h : ¬ Mon n) : Calls Try.prog 20 #[.int .i64 n] w fun e w' => e = .returned (.bool false) ∧ w = w' := money_no n w (by unfold Mon at h; omega)
theorem vfind (s : LV w O base t sb v n g) (hb : VRow n g) (hn : n ≤ 1000000) (c y : Int) :
    Calls Try.prog 69 #[ptr sb, .int .i64 y, .int .i64 c] w fun e w' => ∃ (p : Nat) (f : Bool), e = .returned (.tuple #[.int .i64 p, .bool f]) ∧ VAt n g ⟨c, y, 0⟩ p f ∧ Below w.heap.size w w' := by
  have c0 := s.hd.c0
  obtain ⟨A, cc, rfl, hc, hm, _, ha⟩ := s.at
  have C1 := Lib.hid (vsearch_any A n cc g ⟨c, y, 0⟩ w ha hb hn hc)
  clear s ha hb
  go_enter Try.func69, Try.ntmps69
  go_wp2_with (go_at_call 80; (refine (C1.out).mono ?_); rintro e w' ⟨p, f, rfl, hp, hb⟩)
  go_ret2
  exact ⟨p, f, rfl, hp, hb⟩
end
end Go.Proofs.Ytmlafdehhbhbiaa

/- Package vintage: Add, as the laws meet it: a contract. -/
namespace Go.Proofs.Ytmlafdehhbhbiaa
open Go.RowKit

section
variable {w0 w w1 : World} {O O1 : Nat → Nat} {base t t' sb n m p : Nat} {v v' : Value} {g h : Nat → Bk} {S : Int → Int → Int} {c y a e : Int}
theorem vsum_yes {T a : Int} (h1 : 0 ≤ T) (h2 : 1 ≤ a) (h3 : T + a ≤ 100000000000) : SumIs (fun j => [T, a].getD j 0) 2 (T + a) true := by
  have e : tot (fun j => [T, a].getD j 0) 2 = T + a := by simp [tot]
  refine .inl ⟨rfl, e.symm, by rw [e]; unfold Mon; omega, fun j hj => ?_⟩
  rcases (show j = 0 ∨ j = 1 by omega) with rfl | rfl
  · show Mon T; unfold Mon; omega
  · show Mon a; unfold Mon; omega
theorem vsum_no {T a : Int} (h3 : 100000000000 < T + a) : SumIs (fun j => [T, a].getD j 0) 2 0 false := by
  have e : tot (fun j => [T, a].getD j 0) 2 = T + a := by simp [tot]
  exact .inr ⟨rfl, rfl, .inr (by rw [e]; unfold Mon; omega)⟩
/-- the place was found, or not -/
theorem vat_found (b : VIs S n g) (h : VAt n g ⟨c, y, 0⟩ p true) (h0 : S c y + a ≠ 0) : p < n ∧ (g p).a = S c y ∧ S c y ≠ 0 ∧ VIs (upS S c y (S c y + a)) n (repB g p ⟨(g p).c, (g p).y, S c y + a⟩) := by
  obtain ⟨h1, h2, h3⟩ := h.fd.1 rfl
  simp only at h2 h3
  subst h2 h3
  have hv := b.at h1
  exact ⟨h1, hv.symm, by rw [hv]; exact b.1.nz p h1, (vis_rep b h1 h0).1⟩
theorem vrep_ins (g : Nat → Bk) (p : Nat) (x z : Bk) : repB (insB g p x) p z = insB g p z := by
  funext j
  unfold repB insB
  by_cases q : j = p
  · rw [if_pos q, if_neg (by omega), if_pos q]
  · rw [if_neg q]
    by_cases r : j < p
    · rw [if_pos r, if_pos r]
    · rw [if_neg r, if_neg r, if_neg q, if_neg q]
theorem vat_new (b : VIs S n g) (hok : VOk c y) (h : VAt n g ⟨c, y, 0⟩ p false) (h0 : a ≠ 0) : p ≤ n ∧ S c y = 0 ∧ (insB g p ⟨c, y, 0⟩ p) = ⟨c, y, 0⟩ ∧ VIs (upS S c y (S c y + a)) (n + 1) (repB (insB g p ⟨c, y, 0⟩) p ⟨c, y, a⟩) := by
  have nf : ¬ (p < n ∧ (g p).c = c ∧ (g p).y = y) := fun q => by cases h.fd.2 q
  have h2 : ∀ j, p ≤ j → j < n → Bl c y (g j).c (g j).y := fun j h1 h2 => by
    rcases h.hi j h1 h2 with ⟨e1, e2⟩ | q
    · exfalso
      simp only at e1 e2
      rcases h.hi p (Nat.le_refl _) (by omega) with e | q
      · exact nf ⟨by omega, e⟩
      · simp only at q
        by_cases z : p = j
        · subst z; exact nf ⟨h2, e1, e2⟩
        · have := b.1.asc p j (by omega) h2
          rw [e1, e2] at this
          unfold Bl at *; omega
    · exact q
  obtain ⟨k1, _, k3⟩ := vis_ins b h.le hok h0 h.lo h2
  refine ⟨h.le, k3, by unfold insB; rw [if_neg (by omega), if_pos rfl], ?_⟩
  rw [vrep_ins, k3, Int.zero_add]; exact k1
set_option maxHeartbeats 4000000 in
set_option maxRecDepth 100000 in
theorem pvadd (h : NowV w0 w O t sb S) (ht : t ≠ 0) {m : Nat} {g' : Nat → Bk} (b : VIs S m g') (c y a e : Int) (he : AErr S m (btot g' m) c y a e) :
    Calls Try.prog 45 #[ptr sb, .int .i64 y, .int .i64 c, .int .i64 a] w fun e' w' => e' = .returned (.int .i64 e) ∧ ∃ O', NowV w0 w' O' t sb (adS e S c y a) ∧ Step w0.heap.size O t w O' w' := by
  obtain ⟨v, n, g, s, iv⟩ := h.st
  rw [← iv.is.total b, ← (iv.is.uniq b).1] at he
  have HH := Lib.hid h
  have HI := Lib.hid iv
  have HS := Lib.hid s
  have hn := iv.le
  have CT := Lib.hid (vleft s (by omega) fun j hj => iv.mon hj)
  have tl := iv.low
  obtain ⟨T, eT⟩ : ∃ T, btot g n = T := ⟨_, rfl⟩
  rw [eT] at he CT tl
  have HT := Lib.hid eT
  clear b h s iv eT
  cases he
  case arg ha =>
    have hres : Hid (∃ O', NowV w0 w O' t sb (adS 1 S c y a) ∧ Step w0.heap.size O t w O' w) := Lib.hid ⟨O, by unfold adS; rw [if_neg (by decide)]; exact HH.out, Step.refl HH.out.fin⟩
    by_cases h1 : VOk c y
    · have R1 := Lib.hid fun w => vright_yes c y w h1
      by_cases h2 : a < 1
      · clear ha h1
        go_enter Try.func45, Try.ntmps45
        go_wp2_with (first | (go_at_call 68; (with_reducible refine (R1.out _).mono ?_); rintro e w' ⟨rfl, rfl⟩))
        go_ret
        exact ⟨rfl, hres.out⟩
      · have R2 := Lib.hid fun w => vmny_no a w (fun z => ha ⟨h1, by omega, z.2⟩)
        have h2' : decide (a < 1) = false := by simpa using h2
        clear ha h1 h2
        go_enter Try.func45, Try.ntmps45
        go_wp2_with (first | (go_at_call 68; (with_reducible refine (R1.out _).mono ?_); rintro e w' ⟨rfl, rfl⟩) | (go_at_call 20; (with_reducible refine (R2.out _).mono ?_); rintro e w' ⟨rfl, rfl⟩))
        go_ret
        exact ⟨rfl, hres.out⟩
    · have R1 := Lib.hid fun w => vright_no c y w h1
      clear ha h1
      go_enter Try.func45, Try.ntmps45
      go_wp2_with (first | (go_at_call 68; (with_reducible refine (R1.out _).mono ?_); rintro e w' ⟨rfl, rfl⟩))
      go_ret
      exact ⟨rfl, hres.out⟩
  case over ha ho =>
    obtain ⟨h1, h2, h3⟩ := ha
    have R1 := Lib.hid fun w => vright_yes c y w h1
    have R2 := Lib.hid fun w => vmny_yes a w ⟨by omega, h3⟩
    have HSUM := Lib.hid (vsum_no (T := T) (a := a) ho)
    have h2' : decide (a < 1) = false := by simp; omega
    have L := Lib.hid fun w1 : World => lit_row w1 [T, a] 3
    clear ho h1 h2 h3
    go_enter Try.func45, Try.ntmps45
    go_wp2_with (first | (go_at_call 68; (with_reducible refine (R1.out _).mono ?_); rintro e w' ⟨rfl, rfl⟩) | (go_at_call 20; (with_reducible refine (R2.out _).mono ?_); rintro e w' ⟨rfl, rfl⟩) | (go_at_call 10; (refine (CT.out).mono ?_); rintro e w1 ⟨rfl, hb1⟩; have K1 := Lib.hid hb1; have C2 := Lib.hid (sum_some w1.heap.size 0 2 2 _ 0 false _ (L.out w1).1 (L.out w1).hid (by omega) (by omega) HSUM); clear hb1) | (go_at_call 61; (refine (C2.out).mono ?_); rintro e w2 ⟨rfl, hb2⟩; have K2 := Lib.hid ((K1.out.alloc K1.out.size _).trans (hb2.mono (by have := K1.out.size; simp; omega))); clear hb2))
    go_ret
    exact ⟨rfl, O, by unfold adS; rw [if_neg (by decide)]; exact HH.out.below K2.out, Step.of_below HH.out.fin K2.out⟩
  case limit ha ho h4 h5 =>
    obtain ⟨h1, h2, h3⟩ := ha
    have R1 := Lib.hid fun w => vright_yes c y w h1
    have R2 := Lib.hid fun w => vmny_yes a w ⟨by omega, h3⟩
    have HSUM := Lib.hid (vsum_yes (T := T) (a := a) tl h2 ho)
    have h2' : decide (a < 1) = false := by simp; omega
    have L := Lib.hid fun w1 : World => lit_row w1 [T, a] 3
    obtain rfl : n = 12 := by omega
    have H4 := Lib.hid h4
    clear ho h1 h2 h3 h4 h5 tl
    go_enter Try.func45, Try.ntmps45
    go_wp2_with (first | (go_at_call 68; (with_reducible refine (R1.out _).mono ?_); rintro e w' ⟨rfl, rfl⟩) | (go_at_call 20; (with_reducible refine (R2.out _).mono ?_); rintro e w' ⟨rfl, rfl⟩) | (go_at_call 10; (refine (CT.out).mono ?_); rintro e w1 ⟨rfl, hb1⟩; have K1 := Lib.hid hb1; have C2 := Lib.hid (sum_some w1.heap.size 0 2 2 _ (T + a) true _ (L.out w1).1 (L.out w1).hid (by omega) (by omega) HSUM); clear hb1) | (go_at_call 61; (refine (C2.out).mono ?_); rintro e w2 ⟨rfl, hb2⟩; have K2 := Lib.hid ((K1.out.alloc K1.out.size _).trans (hb2.mono (by have := K1.out.size; simp; omega))); have C3 := Lib.hid (vfind (HS.out.below K2.out) HI.out.is.1 (by omega) c y); clear hb2) | fail)
    refine (C3.out).mono ?_
    rintro e w3 ⟨p, f, rfl, hp, hb3⟩
    have K3 := Lib.hid (K2.out.trans (hb3.mono K2.out.size))
    have s3 := HS.out.below K3.out
    have c3 := s3.hd.c0
    obtain ⟨A, cc, rfl, _⟩ := s3.at
    cases f with
    | true =>
      exfalso
      obtain ⟨q1, q2, q3⟩ := hp.fd.1 rfl
      have := HI.out.is.at q1
      simp only at q2 q3
      rw [q2, q3, H4.out] at this
      exact HI.out.is.1.nz p q1 this.symm
    | false =>
      clear hp hb3 s3 C3
      go_wp2
      go_ret
      exact ⟨rfl, O, by unfold adS; rw [if_neg (by decide)]; exact HH.out.below K3.out, Step.of_below HH.out.fin K3.out⟩
  case ok ha ho h4 =>
    have HA := Lib.hid ha
    have H4 := Lib.hid h4
    have HO := Lib.hid ho
    obtain ⟨h1, h2, h3⟩ := ha
    have R1 := Lib.hid fun w => vright_yes c y w h1
    have R2 := Lib.hid fun w => vmny_yes a w ⟨by omega, h3⟩
    have HSUM := Lib.hid (vsum_yes (T := T) (a := a) tl h2 ho)
    have h2' : decide (a < 1) = false := by simp; omega
    have L := Lib.hid fun w1 : World => lit_row w1 [T, a] 3
    clear ho h1 h2 h3 h4 tl
    go_enter Try.func45, Try.ntmps45
    go_wp2_with (first | (go_at_call 68; (with_reducible refine (R1.out _).mono ?_); rintro e w' ⟨rfl, rfl⟩) | (go_at_call 20; (with_reducible refine (R2.out _).mono ?_); rintro e w' ⟨rfl, rfl⟩) | (go_at_call 10; (refine (CT.out).mono ?_); rintro e w1 ⟨rfl, hb1⟩; have K1 := Lib.hid hb1; have C2 := Lib.hid (sum_some w1.heap.size 0 2 2 _ (T + a) true _ (L.out w1).1 (L.out w1).hid (by omega) (by omega) HSUM); clear hb1) | (go_at_call 61; (refine (C2.out).mono ?_); rintro e w2 ⟨rfl, hb2⟩; have K2 := Lib.hid ((K1.out.alloc K1.out.size _).trans (hb2.mono (by have := K1.out.size; simp; omega))); have C3 := Lib.hid (vfind (HS.out.below K2.out) HI.out.is.1 (by omega) c y); clear hb2) | fail)
    refine (C3.out).mono ?_
    rintro e w3 ⟨p, f, rfl, hp, hb3⟩
    have K3 := Lib.hid (K2.out.trans (hb3.mono K2.out.size))
    have s3 := HS.out.below K3.out
    have HS3 := Lib.hid s3
    have HF3 := Lib.hid (HH.out.fin.below K3.out)
    have c3 := s3.hd.c0
    have HP := Lib.hid hp
    have sxy := HI.out.at c y
    rw [HT.out] at sxy
    have hx0 : S c y + a ≠ 0 := by have := HA.out.2.1; omega
    have hpi : (0 : Int) ≤ (p : Int) := by omega
    clear hp hb3 C3
    cases f with
    | true =>
      obtain ⟨q1, q2, q3, q4⟩ := vat_found HI.out.is HP.out hx0
      obtain ⟨b, cc, e, _, _⟩ := own_some s3.own (by omega)
      subst e
      obtain ⟨_, _, e, _, _, _, _, hcell, hfz⟩ := s3.own.some ve_len (by omega)
      injection e with e1 _ e3
      injection e1 with e1
      injection e1 with e1
      subst e1 e3
      have k2 := hcell p q1 2 _ rfl
      have f2 := hfz (p * 3 + 2)
      rw [q2] at k2
      have HIV := Lib.hid (HI.out.add HA.out (by rw [HT.out]; exact HO.out) (.inl q3) q4).1
      obtain ⟨V, eV⟩ : ∃ V, S c y = V := ⟨_, rfl⟩
      rw [eV] at k2 sxy hx0
      have ew : IntKind.i64.wrap (V + a) = V + a := IntWalk.i64_in _ (by have := HA.out.2; have := HO.out; omega)
      have hpm : (p : Int) < (n : Int) := by omega
      have HV := Lib.hid eV
      clear hcell hfz q3 q4 q2 eV s3 sxy hx0
      go_wp2
      go_ret
      obtain ⟨s4, st4⟩ := HS3.out.put HF3.out q1 (V + a)
      have st := (Step.of_below (t := t) HH.out.fin K3.out).trans st4
      refine ⟨rfl, O, ⟨⟨_, n, _, s4, ?_⟩, st4.fin, HH.out.low.trans (st.below HH.out.fin ht HH.out.low.size)⟩, st⟩
      unfold adS
      rw [if_pos rfl, ← HV.out]; exact HIV.out
    | false =>
      obtain ⟨q1, q2, q3, q4⟩ := vat_new HI.out.is HA.out.1 HP.out (a := a) (by have := HA.out.2.1; omega)
      have hn2 : n < 12 := H4.out.resolve_left fun z => z q2
      have HIV := Lib.hid (HI.out.add HA.out (by rw [HT.out]; exact HO.out) (.inr hn2) q4).1
      obtain ⟨A, cc, rfl, _⟩ := s3.at
      have X0 := Lib.hid (heap_alloc_new w3 (.cells (ve ⟨c, y, 0⟩).toArray 78))
      have HS4 := Lib.hid (s3.below ((Below.refl _ _).alloc (Nat.le_refl _) (.cells (ve ⟨c, y, 0⟩).toArray 78)))
      have HF4 := Lib.hid (HF3.out.below ((Below.refl _ _).alloc (Nat.le_refl _) (.cells (ve ⟨c, y, 0⟩).toArray 78)))
      have C4 := Lib.hid (vinsert (i := p) HS4.out.own X0.out (fun b hb => by have := (OwnR.lt HS3.out.own b (by rw [hb]; rfl)).2; omega) (by omega) (Nat.le_trans (Nat.le_trans HH.out.low.size K3.out.size) (by simp)) q1)
      have c4 := HS4.out.hd.c0
      have f4 := HS4.out.hd.frz 0
      have lt4 := HS4.out.hd.lt
      have nf4 : ¬ (12 : Int) ≤ (n : Int) := by omega
      have Q3 := Lib.hid q3
      have HN := Lib.hid hn2
      have HQ1 := Lib.hid q1
      have EW : Hid (wrap64 a = a) := Lib.hid (by have := HA.out.2; unfold wrap64; omega)
      have nob : Hid (some sb ≠ (Value.slice A n cc).ownBlock) := Lib.hid fun e => (HS4.out.row.tag sb e.symm).2 rfl
      clear q2 q3 q4 s3 sxy hx0 hn2 q1
      go_wp2_with (go_at_call 70; (refine (C4.out).mono ?_); rintro e w5 ⟨b, c', rfl, ho5, hg5, hat5⟩; have c5 := hg5.cell c4 nob.out; have f5 := (hg5.frozen_far ⟨sb, 0, none⟩ lt4 nob.out).trans f4; obtain ⟨O5, s5, st5⟩ := HS4.out.grows HF4.out hg5 ho5 (fun b' hb' => by injection hb' with e; subst e; exact hat5); have c6 := s5.hd.c0; obtain ⟨_, _, e, _, _, _, _, hcell, hfz⟩ := s5.own.some ve_len (by omega); injection e with e1 _ e3; injection e1 with e1; injection e1 with e1; subst e1 e3; have k2 := hcell p (by have := HQ1.out; omega) 2 _ rfl; have f2 := hfz (p * 3 + 2); rw [Q3.out] at k2; have HS5 := Lib.hid s5; have HT5 := Lib.hid st5; have hpm : (p : Int) < (n : Int) + 1 := (by have := HQ1.out; omega); clear hcell hfz ho5 hg5 hat5 s5 st5 C4)
      go_ret
      rw [EW.out]
      obtain ⟨s7, st7⟩ := HS5.out.put HT5.out.fin (i := p) (by have := HQ1.out; omega) a
      rw [Q3.out] at s7
      have st := ((Step.of_below (t := t) HH.out.fin (K3.out.alloc K3.out.size _)).trans HT5.out).trans st7
      refine ⟨rfl, O5, ⟨⟨_, n + 1, _, s7, ?_⟩, st7.fin, HH.out.low.trans (st.below HH.out.fin ht HH.out.low.size)⟩, st⟩
      unfold adS
      rw [if_pos rfl]; exact HIV.out
end
end Go.Proofs.Ytmlafdehhbhbiaa

/- Package vintage: Expire (a goto back to a label), as the laws meet it: a contract. -/
namespace Go.Proofs.Ytmlafdehhbhbiaa
open Go.RowKit

theorem tot_drop (f : Nat → Int) (k : Nat) : ∀ d, tot f (k + d) = tot f k + tot (fun j => f (k + j)) d
  | 0 => by show tot f k = tot f k + 0; omega
  | d + 1 => by
    have e := tot_drop f k d
    show tot f (k + d) + f (k + d) = tot f k + (tot (fun j => f (k + j)) d + f (k + d))
    omega
section
variable {w0 w w1 : World} {O O1 : Nat → Nat} {base t t' sb n m k : Nat} {v v' : Value} {g h : Nat → Bk} {S : Int → Int → Int} {c y a e year : Int}
/-- the first ones are of a year behind, the others are not -/
structure Upto (n : Nat) (g : Nat → Bk) (year : Int) (k : Nat) : Prop where
  le : k ≤ n
  lo : ∀ j, j < k → (g j).c < year
  hi : ∀ j, k ≤ j → j < n → ¬ (g j).c < year
theorem upto_all (hlo : ∀ j, j < n → (g j).c < year) : Upto n g year n := ⟨Nat.le_refl _, hlo, fun j h1 h2 => by omega⟩
theorem upto_at (r : VRow n g) (hk : k < n) (hlo : ∀ j, j < k → (g j).c < year) (hq : ¬ (g k).c < year) : Upto n g year k := by
  refine ⟨by omega, hlo, fun j h1 h2 => ?_⟩
  by_cases e : j = k
  · rw [e]; exact hq
  · have := r.asc k j (by omega) h2
    unfold Bl at this; omega
theorem Upto.sum (p : Upto n g year k) : tot (goneU g year) n = btot g k := by
  obtain ⟨d, rfl⟩ := Nat.exists_eq_add_of_le p.le
  rw [tot_drop, tot_zero d fun j hj => by show goneU g year (k + j) = 0; unfold goneU; exact if_neg (p.hi _ (by omega) (by omega)), Int.add_zero]
  exact tot_ext k fun j hj => by unfold goneU; exact if_pos (p.lo j hj)
theorem Upto.inv (p : Upto n g year k) (iv : VInv S n g) : VInv (xpS S year) (n - k) fun j => g (k + j) := by
  have hk := p.le
  have hb : ∀ f : Nat → Int, tot f n = tot f k + tot (fun j => f (k + j)) (n - k) := fun f => by
    rw [← tot_drop, show k + (n - k) = n by omega]
  refine ⟨⟨⟨fun j hj => iv.is.1.ok _ (by omega), fun j hj => iv.is.1.nz _ (by omega), fun i j hi hj => iv.is.1.asc _ _ (by omega) (by omega)⟩, fun c y => ?_⟩, by have := iv.le; omega, fun j hj => iv.pos _ (by omega), ?_⟩
  · have e := hb fun j => bval (g j) c y
    have e0 := iv.is.2 c y
    unfold xpS
    show tot (fun j => bval (g (k + j)) c y) (n - k) = _
    by_cases q : c < year
    · rw [if_pos q]
      refine tot_zero _ fun j hj => if_neg fun z => p.hi (k + j) (by omega) (by omega) ?_
      rw [z.1]; exact q
    · rw [if_neg q, ← e0]
      have z : tot (fun j => bval (g j) c y) k = 0 := tot_zero k fun j hj => if_neg fun z => q (by rw [← z.1]; exact p.lo j hj)
      show _ = tot (fun j => bval (g j) c y) n
      omega
  · have e := hb fun j => (g j).a
    have h0 : 0 ≤ tot (fun j => (g j).a) k := tot_nonneg k fun j hj => iv.pos j (by omega)
    have := iv.all
    show tot (fun j => (g (k + j)).a) (n - k) ≤ _
    have e' : btot g n = tot (fun j => (g j).a) n := rfl
    omega
set_option maxHeartbeats 4000000 in
set_option maxRecDepth 100000 in
theorem vexp (s : LV w O base t sb v n g) (iv : VInv S n g) (fn : Fin0 base O w) (year : Int) :
    Calls Try.prog 39 #[ptr sb, .int .i64 year] w fun e' w' => ∃ k, Upto n g year k ∧ e' = .returned (.int .i64 (btot g k)) ∧ ∃ v' O', LV w' O' base t sb v' (n - k) (fun j => g (k + j)) ∧ Step base O t w O' w' := by
  have c0 := s.hd.c0
  have g0 := s.hd.frz 0
  have lt0 := s.hd.lt
  have hn := iv.le
  obtain ⟨A, cc, rfl, hc, hm, _, ha⟩ := s.at
  have HA := Lib.hid ha
  have HS := Lib.hid s
  have HI := Lib.hid iv
  have HF := Lib.hid fn
  have HN := Lib.hid hn
  have CD := Lib.hid fun k => fun hk : k ≤ n => vdrop (k := k) s.own (by omega) hk
  have nob : Hid (some sb ≠ (Value.slice A n cc).ownBlock) := Lib.hid fun e => (HS.out.row.tag sb e.symm).2 rfl
  have fin : ∀ k, Upto n g year k → ∀ w5, OwnR ve 3 w5 78 base (.slice A (n - k) cc) (n - k) (fun j => g (k + j)) → w.grownBy w5 (Value.slice A n cc).ownBlock → ∃ v' O', LV (w5.setCell ⟨sb, 0, none⟩ (.slice A (n - k) cc)) O' base t sb v' (n - k) (fun j => g (k + j)) ∧ Step base O t w O' (w5.setCell ⟨sb, 0, none⟩ (.slice A (n - k) cc)) := fun k _ w5 ho hg => by
    obtain ⟨O', s', st⟩ := HS.out.grows HF.out hg ho fun b hb => .inl (by
      rcases A with _ | ⟨b', off', j'⟩
      · cases hb
      · exact hb)
    exact ⟨_, O', s', st⟩
  have FIN := Lib.hid fin
  have HB : Hid (∀ k, k < n → 0 ≤ btot g k ∧ btot g k ≤ 100000000000 ∧ 0 ≤ (g k).a ∧ (g k).a ≤ 100000000000) := Lib.hid fun k hk => by
    have h1 := tot_upto (g := fun j => (g j).a) (k := k) (fun j hj => HI.out.pos j hj) (by omega)
    have h2 := HI.out.all
    have h3 := HI.out.one hk
    have h4 : btot g n = tot (fun j => (g j).a) n := rfl
    have h5 : btot g k = tot (fun j => (g j).a) k := rfl
    omega
  have hn2 : n ≤ 12 := hn
  clear s iv fn ha fin
  go_enter Try.func39, Try.ntmps39
  go_wp2
  refine wp_scope_jumps 0 (fun a' w' => ∃ (k : Nat) (T : Int) (u7 u8 u9 u10 u11 u12 u13 u14 u15 u16 u17 u18 u19 u20 u21 u22 u23 u24 u25 u26 u27 u28 u29 u30 u31 u32 u33 u34 u35 u36 u37 u38 u39 u40 u41 u42 u43 u44 u45 u46 u47 : Value), w' = w ∧ a' = { tmps := #[.pointer (some ⟨sb, 0, none⟩), .int .i64 year, undef, undef, .int .i64 0, .int .i64 k, .int .i64 T, u7, u8, u9, u10, u11, u12, u13, u14, u15, u16, u17, u18, u19, u20, u21, u22, u23, u24, u25, u26, u27, u28, u29, u30, u31, u32, u33, u34, u35, u36, u37, u38, u39, u40, u41, u42, u43, u44, u45, u46, u47], defers := [] } ∧ k ≤ n ∧ (∀ j, j < k → (g j).c < year) ∧ btot g k = T) (fun a' _ => n - (intOf (a'.tmps.getD 5 undef)).toNat) rfl ?_ ?_
  · go_wp2
    go_step3
    have HT : Hid (btot g 0 = 0) := Lib.hid rfl
    have HLO : Hid (∀ j, j < 0 → (g j).c < year) := Lib.hid fun j hj => by omega
    have C1 := Lib.hid (CD.out 0 (Nat.zero_le _))
    by_cases hlt : 0 < n
    · obtain ⟨b, off, rfl, hb, c1, c2, c3⟩ := HA.out.threeV hlt
      rw [Nat.zero_mul, Nat.add_zero] at c1 c2 c3
      have k1 : (0 : Int) < (n : Int) := by omega
      by_cases hy : (g 0).c < year
      · have HY := Lib.hid hy
        have hy' : decide ((g 0).c < year) = true := by simpa using hy
        have tb := HB.out 0 hlt
        have EW : Hid (wrap64 (g 0).a = (g 0).a) := Lib.hid (by unfold wrap64; omega)
        clear hy tb
        go_wp2
        go_step3
        rw [EW.out]
        refine ⟨rfl, 1, (g 0).a, _, _, _, _, _, _, _, _, _, _, _, _, _, _, _, _, _, _, _, _, _, _, _, _, _, _, _, _, _, _, _, _, _, _, _, _, _, _, _, _, _, rfl, rfl, by omega, fun j hj => ?_, ?_⟩
        · obtain rfl : j = 0 := by omega
          exact HY.out
        · show btot g 0 + (g 0).a = _
          rw [HT.out, Int.zero_add]
      · have HY := Lib.hid hy
        have hy' : decide ((g 0).c < year) = false := by simpa using hy
        clear hy
        go_wp2_with (go_at_call 62; (refine (C1.out).mono ?_); rintro e w5 ⟨rfl, ho5, hg5⟩; have c5 := hg5.cell c0 nob.out; have f5 := (hg5.frozen_far ⟨sb, 0, none⟩ lt0 nob.out).trans g0; have HO5 := Lib.hid ho5; have HG5 := Lib.hid hg5; clear ho5 hg5)
        simp only [Exit.jump]
        go_ret
        have p := upto_at HI.out.is.1 hlt HLO.out (by have := HY.out; omega)
        exact ⟨0, p, congrArg (fun x => Ending.returned (.int .i64 x)) HT.out.symm, FIN.out 0 p _ HO5.out HG5.out⟩
    · obtain rfl : n = 0 := by omega
      clear hlt
      go_wp2_with (go_at_call 62; (refine (C1.out).mono ?_); rintro e w5 ⟨rfl, ho5, hg5⟩; have c5 := hg5.cell c0 nob.out; have f5 := (hg5.frozen_far ⟨sb, 0, none⟩ lt0 nob.out).trans g0; have HO5 := Lib.hid ho5; have HG5 := Lib.hid hg5; clear ho5 hg5)
      simp only [Exit.jump]
      go_ret
      have p := upto_all HLO.out
      exact ⟨0, p, congrArg (fun x => Ending.returned (.int .i64 x)) HT.out.symm, FIN.out 0 p _ HO5.out HG5.out⟩
  · rintro a' w' ⟨k, T, u7, u8, u9, u10, u11, u12, u13, u14, u15, u16, u17, u18, u19, u20, u21, u22, u23, u24, u25, u26, u27, u28, u29, u30, u31, u32, u33, u34, u35, u36, u37, u38, u39, u40, u41, u42, u43, u44, u45, u46, u47, rfl, rfl, hk, hlo, hT⟩
    have HLO := Lib.hid hlo
    have HT := Lib.hid hT
    clear hlo hT
    have C1 := Lib.hid (CD.out k hk)
    have k0 : (0 : Int) ≤ (k : Int) := by omega
    by_cases hlt : k < n
    · obtain ⟨b, off, rfl, hb, c1, c2, c3⟩ := HA.out.threeV hlt
      have k1 : (k : Int) < (n : Int) := by omega
      by_cases hy : (g k).c < year
      · have HY := Lib.hid hy
        have hy' : decide ((g k).c < year) = true := by simpa using hy
        have tb := HB.out k hlt
        rw [HT.out] at tb
        have ew : IntKind.i64.wrap (T + (g k).a) = T + (g k).a := IntWalk.i64_in _ (by omega)
        clear hy tb
        go_wp2
        go_step3
        refine ⟨rfl, ⟨k + 1, T + (g k).a, _, _, _, _, _, _, _, _, _, _, _, _, _, _, _, _, _, _, _, _, _, _, _, _, _, _, _, _, _, _, _, _, _, _, _, _, _, _, _, _, _, rfl, rfl, by omega, fun j hj => ?_, ?_⟩, ?_⟩
        · by_cases e : j = k
          · rw [e]; exact HY.out
          · exact HLO.out j (by omega)
        · rw [← HT.out]; rfl
        · simp [intOf]; omega
      · have HY := Lib.hid hy
        have hy' : decide ((g k).c < year) = false := by simpa using hy
        clear hy
        go_wp2_with (go_at_call 62; (refine (C1.out).mono ?_); rintro e w5 ⟨rfl, ho5, hg5⟩; have c5 := hg5.cell c0 nob.out; have f5 := (hg5.frozen_far ⟨sb, 0, none⟩ lt0 nob.out).trans g0; have HO5 := Lib.hid ho5; have HG5 := Lib.hid hg5; clear ho5 hg5)
        simp only [Exit.jump]
        go_ret
        have p := upto_at HI.out.is.1 hlt HLO.out (by have := HY.out; omega)
        exact ⟨k, p, congrArg (fun x => Ending.returned (.int .i64 x)) HT.out.symm, FIN.out k p _ HO5.out HG5.out⟩
    · obtain rfl : k = n := by omega
      have k1 : decide ((k : Int) < (k : Int)) = false := by simp
      clear hlt
      go_wp2_with (go_at_call 62; (refine (C1.out).mono ?_); rintro e w5 ⟨rfl, ho5, hg5⟩; have c5 := hg5.cell c0 nob.out; have f5 := (hg5.frozen_far ⟨sb, 0, none⟩ lt0 nob.out).trans g0; have HO5 := Lib.hid ho5; have HG5 := Lib.hid hg5; clear ho5 hg5)
      simp only [Exit.jump]
      go_ret
      have p := upto_all HLO.out
      have f := FIN.out k p _ HO5.out HG5.out
      refine ⟨k, p, congrArg (fun x => Ending.returned (.int .i64 x)) HT.out.symm, ?_⟩
      rw [Nat.sub_self] at f ⊢
      exact f
theorem pvexp (h : NowV w0 w O t sb S) (ht : t ≠ 0) {m : Nat} {g' : Nat → Bk} (b : VIs S m g') (year : Int) :
    Calls Try.prog 39 #[ptr sb, .int .i64 year] w fun e' w' => e' = .returned (.int .i64 (tot (goneU g' year) m)) ∧ ∃ O', NowV w0 w' O' t sb (xpS S year) ∧ Step w0.heap.size O t w O' w' := by
  obtain ⟨v, n, g, s, iv⟩ := h.st
  obtain ⟨eq, eg⟩ := iv.is.uniq b
  subst eq
  refine (vexp s iv h.fin year).mono ?_
  rintro e' w' ⟨k, p, rfl, v', O', s', st⟩
  refine ⟨congrArg (fun x => Ending.returned (.int .i64 x)) ?_, O', ⟨⟨_, _, _, s', p.inv iv⟩, st.fin, h.low.trans (st.below h.fin ht h.low.size)⟩, st⟩
  rw [← p.sum]
  exact tot_ext n fun j hj => by unfold goneU; rw [eg j hj]
end
end Go.Proofs.Ytmlafdehhbhbiaa

/- Package vintage: Take, as the laws meet it: a contract. -/
namespace Go.Proofs.Ytmlafdehhbhbiaa
open Go.RowKit

section
variable {w0 w w1 : World} {O O1 : Nat → Nat} {base t t' sb n m k : Nat} {v v' : Value} {g h : Nat → Bk} {S : Int → Int → Int} {U : Option Addr} {q c : Nat} {u : Nat → Int} {r : Int}
theorem venough (s : LV w O base t sb v n g) (iv : VInv S n g) (hu : At w U q u) (hr : TkErr n g q u r) :
    Calls Try.prog 65 #[ptr sb, .slice U q c] w fun e w' => e = .returned (.bool (r == 0)) ∧ Below w.heap.size w w' := by
  have c0 := s.hd.c0
  have hn := iv.le
  obtain ⟨A, cc, rfl, hc, hm, _, ha⟩ := s.at
  have HA := Lib.hid ha
  have HI := Lib.hid iv
  have HU := Lib.hid hu
  have HR := Lib.hid hr
  by_cases hqn : q = n
  · subst hqn
    have ee : ((q : Int) != (q : Int)) = false := by simp
    clear s iv ha hu hr
    go_enter Try.func65, Try.ntmps65
    go_wp2
    go_loopg [17] q (fun gh i wr => ∃ k : Nat, k ≤ q ∧ gh = q - k ∧ i = .int .i64 k ∧ (∀ j, j < k → 0 ≤ u j ∧ u j ≤ (g j).a) ∧ Below w.heap.size w wr)
    case atStart => exact ⟨0, Nat.zero_le _, rfl, rfl, fun j hj => by omega, Below.refl _ _⟩
    case round =>
      obtain ⟨k, hk, hgk, rfl, hok, hbw⟩ := hrel
      have HGK := Lib.hid hgk
      have HW := Lib.hid hbw
      have HK := Lib.hid hok
      clear hgk hbw hok
      by_cases hlt : k < q
      · obtain ⟨b, off, rfl, hb, k0, k1, k2⟩ := (HA.out.below HW.out).threeV hlt
        obtain ⟨bu, ou, rfl, hbu, hcu⟩ := (HU.out.below HW.out).some (show 0 < q by omega)
        have cu := hcu k hlt
        have d0 := cell_keep c0 HW.out
        have i1 : (0 : Int) ≤ (k : Int) := by omega
        have i2 : (k : Int) < (q : Int) := by omega
        obtain ⟨x, hx⟩ : ∃ x, u k = x := ⟨_, rfl⟩
        obtain ⟨L, hL⟩ : ∃ L, (g k).a = L := ⟨_, rfl⟩
        rw [hx] at cu
        rw [hL] at k2
        have HX := Lib.hid hx
        have HL := Lib.hid hL
        have bad : x < 0 ∨ L < x → Hid ((r == 0) = false) := fun z => Lib.hid (by
          rcases HR.out with ⟨h1, _⟩ | ⟨_, rfl⟩
          · have := h1.2 k hlt
            rw [HX.out, HL.out] at this; omega
          · rfl)
        clear hx hL hcu
        by_cases h1 : x < 0
        · have RB := bad (.inl h1)
          have d1 : decide (x < 0) = true := by simpa using h1
          clear h1 bad
          go_wp2
          go_ret
          exact ⟨congrArg (fun x => Ending.returned (.bool x)) RB.out.symm, HW.out⟩
        · by_cases h2 : L < x
          · have RB := bad (.inr h2)
            have d1 : decide (x < 0) = false := by simpa using h1
            have d2 : decide (L < x) = true := by simpa using h2
            clear h1 h2 bad
            go_wp2
            go_ret
            exact ⟨congrArg (fun x => Ending.returned (.bool x)) RB.out.symm, HW.out⟩
          · have d1 : decide (x < 0) = false := by simpa using h1
            have d2 : decide (L < x) = false := by simpa using h2
            have HK2 : Hid (∀ j, j < k + 1 → 0 ≤ u j ∧ u j ≤ (g j).a) := Lib.hid fun j hj => by
              by_cases e : j = k
              · rw [e, HX.out, HL.out]; omega
              · exact HK.out j (by omega)
            clear h1 h2 bad
            go_wp2
            go_roundg (q - (k + 1))
            case measure => have := HGK.out; omega
            case rel => exact ⟨k + 1, by omega, rfl, by go_num, HK2.out, HW.out⟩
      · obtain rfl : k = q := by omega
        clear hlt
        have RB : Hid ((r == 0) = true) := Lib.hid (by
          rcases HR.out with ⟨_, rfl⟩ | ⟨h1, _⟩
          · rfl
          · exact absurd ⟨rfl, HK.out⟩ h1)
        go_wp2
        go_ret
        exact ⟨congrArg (fun x => Ending.returned (.bool x)) RB.out.symm, HW.out⟩
  · have ee : ((q : Int) != (n : Int)) = true := by simp; omega
    have RB : Hid ((r == 0) = false) := Lib.hid (by
      rcases HR.out with ⟨h1, _⟩ | ⟨_, rfl⟩
      · exact absurd h1.1 hqn
      · rfl)
    clear s iv ha hu hr hqn
    go_enter Try.func65, Try.ntmps65
    go_wp2
    go_ret
    exact ⟨congrArg (fun x => Ending.returned (.bool x)) RB.out.symm, Below.refl _ _⟩
theorem LV.ext (s : LV w O base t sb v n g) (e : ∀ j, j < n → g j = h j) : LV w O base t sb v n h := ⟨s.hd, by rw [← rl_ext e]; exact s.row⟩
/-- k of them are some less -/
def lessK (g : Nat → Bk) (u : Nat → Int) (k : Nat) : Nat → Bk := fun j => if j < k then lessG g u j else g j
set_option maxHeartbeats 4000000 in
set_option maxRecDepth 100000 in
theorem vtake (s : LV w O base t sb v n g) (iv : VInv S n g) (fn : Fin0 base O w) (hu : At w U q u) (hU : ∀ b off, U = some ⟨b, off, none⟩ → O b ≠ t) (hr : TkErr n g q u r) :
    Calls Try.prog 44 #[ptr sb, .slice U q c] w fun e w' => e = .returned (.int .i64 r) ∧ ((r = 1 ∧ Below w.heap.size w w') ∨ (r = 0 ∧ UOk n g q u ∧ ∃ v' m h O', LV w' O' base t sb v' m h ∧ Flt n (lessG g u) n m h ∧ Step base O t w O' w')) := by
  have C1 := Lib.hid (venough (c := c) s iv hu hr)
  have HS := Lib.hid s
  have HI := Lib.hid iv
  have HF := Lib.hid fn
  have HU := Lib.hid hu
  have HNU := Lib.hid hU
  have hn := iv.le
  rcases hr with ⟨ok, rfl⟩ | ⟨nok, rfl⟩
  · obtain ⟨rfl, ok⟩ := ok
    have HOK := Lib.hid ok
    rw [show ((0 : Int) == 0) = true from rfl] at C1
    clear s iv fn hu hU ok
    go_enter Try.func44, Try.ntmps44
    go_wp2_with (go_at_call 65; (refine (C1.out).mono ?_); rintro e w1 ⟨rfl, hb1⟩; have K1 := Lib.hid hb1; clear hb1)
    go_loopg [13] q (fun gh i wr => ∃ k : Nat, k ≤ q ∧ gh = q - k ∧ i = .int .i64 k ∧ LV wr O base t sb v q (lessK g u k) ∧ Step base O t w O wr)
    case atStart => exact ⟨0, Nat.zero_le _, rfl, rfl, (HS.out.below K1.out).ext fun j hj => (if_neg (Nat.not_lt_zero _)).symm, Step.of_below HF.out K1.out⟩
    case round =>
      obtain ⟨k, hk, hgk, rfl, hs, hst⟩ := hrel
      have HGK := Lib.hid hgk
      have HSR := Lib.hid hs
      have HST := Lib.hid hst
      have d0 := hs.hd.c0
      clear hgk hs hst
      by_cases hlt : k < q
      · obtain ⟨b, cc, e, _, _⟩ := own_some HSR.out.own (by omega)
        subst e
        obtain ⟨_, _, e, _, _, _, _, hcell, hfz⟩ := HSR.out.own.some ve_len (by omega)
        injection e with e1 _ e3
        injection e1 with e1
        injection e1 with e1
        subst e1 e3
        have k2 := hcell k hlt 2 _ rfl
        have f2 := hfz (k * 3 + 2)
        have ek : lessK g u k k = g k := if_neg (Nat.lt_irrefl _)
        rw [ek] at k2
        have EK := Lib.hid ek
        obtain ⟨bu, ou, rfl, hbu, hcu⟩ := HU.out.some (show 0 < q by omega)
        have cu := (World.cell?_of_block (a := ⟨bu, ou + k, none⟩) (HST.out.kept.block bu hbu (HNU.out bu ou rfl))).trans (hcu k hlt)
        have i1 : (0 : Int) ≤ (k : Int) := by omega
        have i2 : (k : Int) < (q : Int) := by omega
        have hok := HOK.out k hlt
        have hall := HI.out.one hlt
        have hall2 := HI.out.all
        obtain ⟨x, hx⟩ : ∃ x, u k = x := ⟨_, rfl⟩
        obtain ⟨L, hL⟩ : ∃ L, (g k).a = L := ⟨_, rfl⟩
        rw [hx] at cu hok
        rw [hL] at k2 hok hall
        have ew : IntKind.i64.wrap (L - x) = L - x := IntWalk.i64_in _ (by omega)
        have HX := Lib.hid hx
        have HL := Lib.hid hL
        have HM : Hid (LV (wr.setCell ⟨b, k * 3 + 2, none⟩ (.int .i64 (L - x))) O base t sb (.slice (some ⟨b, 0, none⟩) q cc) q (lessK g u (k + 1)) ∧ Step base O t w O (wr.setCell ⟨b, k * 3 + 2, none⟩ (.int .i64 (L - x)))) := Lib.hid (by
          obtain ⟨s1, st1⟩ := HSR.out.put HST.out.fin hlt (L - x)
          refine ⟨s1.ext fun j hj => ?_, HST.out.trans st1⟩
          unfold repB
          by_cases e : j = k
          · rw [if_pos e, e, EK.out]
            unfold lessK
            rw [if_pos (by omega)]
            unfold lessG
            rw [HX.out, HL.out]
          · rw [if_neg e]
            unfold lessK
            by_cases z : j < k
            · rw [if_pos z, if_pos (by omega)]
            · rw [if_neg z, if_neg (by omega)])
        clear hcell hfz hcu hx hL hok hall hall2 ek
        go_wp2
        go_roundg (q - (k + 1))
        case measure => have := HGK.out; omega
        case rel => exact ⟨k + 1, by omega, rfl, by go_num, HM.out.1, HM.out.2⟩
      · obtain rfl : k = q := by omega
        clear hlt
        have HSE := Lib.hid (HSR.out.ext (h := lessG g u) fun j hj => if_pos hj)
        obtain ⟨A, cc, rfl, _⟩ := HSE.out.at
        have C2 := Lib.hid (vdelfn HSE.out.own (by omega) (fun j hj => HI.out.is.1.ok j hj) (fun i j hi hj => HI.out.is.1.asc i j hi hj))
        have lt0 := HSE.out.hd.lt
        have g0 := HSE.out.hd.frz 0
        have nob : Hid (some sb ≠ (Value.slice A k cc).ownBlock) := Lib.hid fun e => (HSE.out.row.tag sb e.symm).2 rfl
        go_wp2_with (go_at_call 66; (refine (C2.out).mono ?_); rintro e w5 ⟨m, h5, rfl, ho5, hf5, hg5⟩; have c5 := hg5.cell d0 nob.out; have f5 := (hg5.frozen_far ⟨sb, 0, none⟩ lt0 nob.out).trans g0; have HO5 := Lib.hid ho5; have HG5 := Lib.hid hg5; have HF5 := Lib.hid hf5; clear ho5 hg5 hf5)
        go_ret
        obtain ⟨O', s', st⟩ := HSE.out.grows HST.out.fin HG5.out HO5.out fun b hb => .inl (by
          rcases A with _ | ⟨b', off', j'⟩
          · cases hb
          · exact hb)
        exact ⟨rfl, .inr ⟨trivial, ⟨rfl, HOK.out⟩, _, _, _, O', s', HF5.out, HST.out.trans st⟩⟩
  · rw [show ((1 : Int) == 0) = false from rfl] at C1
    clear s iv fn hu hU nok
    go_enter Try.func44, Try.ntmps44
    go_wp2_with (go_at_call 65; (refine (C1.out).mono ?_); rintro e w1 ⟨rfl, hb1⟩; have K1 := Lib.hid hb1; clear hb1)
    go_ret
    exact ⟨rfl, .inl ⟨trivial, K1.out⟩⟩
theorem pvtake (h : NowV w0 w O t sb S) (ht : t ≠ 0) {m : Nat} {g' : Nat → Bk} (b : VIs S m g') {U : Option Addr} {q c : Nat} {u : Nat → Int} (hu : At w U q u) (hU : ∀ b off, U = some ⟨b, off, none⟩ → O b ≠ t) (r : Int) (hr : TkErr m g' q u r) :
    Calls Try.prog 44 #[ptr sb, .slice U q c] w fun e' w' => e' = .returned (.int .i64 r) ∧ ∃ O', NowV w0 w' O' t sb (tkS r S m g' u) ∧ Step w0.heap.size O t w O' w' := by
  obtain ⟨v, n, g, s, iv⟩ := h.st
  obtain ⟨eq, eg⟩ := iv.is.uniq b
  subst eq
  have eo : UOk n g q u ↔ UOk n g' q u := by
    unfold UOk
    constructor
    · exact fun z => ⟨z.1, fun j hj => by rw [← eg j hj]; exact z.2 j hj⟩
    · exact fun z => ⟨z.1, fun j hj => by rw [eg j hj]; exact z.2 j hj⟩
  have hr' : TkErr n g q u r := by
    unfold TkErr at hr ⊢
    rw [eo]; exact hr
  refine (vtake s iv h.fin hu hU hr').mono ?_
  rintro e' w' ⟨rfl, h1⟩
  refine ⟨rfl, ?_⟩
  unfold tkS
  rcases h1 with ⟨rfl, hb⟩ | ⟨rfl, k2, v', m', h', O', s', f, st⟩
  · exact ⟨O, by rw [if_neg (by decide)]; exact h.below hb, Step.of_below h.fin hb⟩
  · refine ⟨O', ⟨⟨_, _, _, s', ?_⟩, st.fin, h.low.trans (st.below h.fin ht h.low.size)⟩, st⟩
    rw [if_pos rfl, ← less_ext u eg]
    exact (iv.less k2.2 f).1
end
end Go.Proofs.Ytmlafdehhbhbiaa
