/- Package vintage: how two losses compare; where one stands among others (slices.BinarySearchFunc walked): a contract for each. -/
import Derived.Test.YtmeljcogoeghaaaRows
import Derived.Test.YtmeljcogoeghaaaRec
import Derived.Test.YtmeljcogoeghaaaCmp
import Derived.Test.YtmeljcogoeghaaaRVint
import Derived.Test.YtmeljcogoeghaaaRate
import Derived.WalkKit
import Derived.WalkSpells
import Derived.WalkLawsBesides
import Derived.Lib.Hide
import Derived.IntWalk
import Derived.Deep.LoopGhost
import Derived.Deep.QuietTactic
import Derived.BigQuiet
import Derived.Deep.RegionHeld3
namespace Go.Proofs.Ytmeljcogoeghaaa
open Go.RowKit

/-- a loss, as a value -/
abbrev va (x : Bk) : Value := .agg #[.int .i64 x.y, .int .i64 x.c, .int .i64 x.a]
/-- how two losses compare -/
def vkc (x z : Bk) : Int := orc (cmpc x.c z.c) (cmpc x.y z.y)
theorem vkc_neg {x z : Bk} : vkc x z < 0 ↔ Bl x.c x.y z.c z.y := by unfold vkc orc Bl cmpc; split <;> (repeat' split) <;> omega
theorem vkc_zero {x z : Bk} : vkc x z = 0 ↔ x.c = z.c ∧ x.y = z.y := by unfold vkc orc cmpc; split <;> (repeat' split) <;> omega
set_option maxHeartbeats 2000000 in
theorem vcmp_any (x z : Bk) (w : World) : Calls Try.prog 58 #[va x, va z] w fun e w' => e = .returned (.int .i64 (vkc x z)) ∧ Below w.heap.size w w' := by
  obtain ⟨xc, xy, xa⟩ := x
  obtain ⟨zc, zy, za⟩ := z
  simp only [va, vkc] at *
  go_enter Try.func58, Try.ntmps58
  go_wp2
  obtain ⟨w1, hw1⟩ : ∃ w1, w1 = (w.alloc (.cells #[.int .i64 xy, .int .i64 xc, .int .i64 xa] 35)).alloc (.cells #[.int .i64 zy, .int .i64 zc, .int .i64 za] 35) := ⟨_, rfl⟩
  have hs : w1.heap.size = w.heap.size + 2 := by rw [hw1]; simp
  have HB1 : Hid (Below w.heap.size w w1) := Lib.hid (by rw [hw1]; exact ((Below.refl _ _).alloc (Nat.le_refl _) _).alloc (by simp) _)
  have N1 := rec_lit w [.int .i64 xy, .int .i64 xc, .int .i64 xa] 35 w.heap.size rfl
  have N2 := rec_lit (w.alloc (.cells #[.int .i64 xy, .int .i64 xc, .int .i64 xa] 35)) [.int .i64 zy, .int .i64 zc, .int .i64 za] 35 (w.heap.size + 1) (by simp)
  have x0 : w1.cell? ⟨w.heap.size, 0, none⟩ = some (.int .i64 xy) := by rw [hw1]; exact cell_keep (N1 0 _ rfl) ((Below.refl _ _).alloc (Nat.le_refl _) _)
  have x1 : w1.cell? ⟨w.heap.size, 1, none⟩ = some (.int .i64 xc) := by rw [hw1]; exact cell_keep (N1 1 _ rfl) ((Below.refl _ _).alloc (Nat.le_refl _) _)
  have z0 : w1.cell? ⟨w.heap.size + 1, 0, none⟩ = some (.int .i64 zy) := by rw [hw1]; exact N2 0 _ rfl
  have z1 : w1.cell? ⟨w.heap.size + 1, 1, none⟩ = some (.int .i64 zc) := by rw [hw1]; exact N2 1 _ rfl
  rw [← hw1]
  clear hw1 N1 N2
  have M0 := rec_lit w1 [.int .i64 (cmpc xc zc), .int .i64 (cmpc xy zy)] 3 (w.heap.size + 2) hs 0 _ rfl
  have M1 := rec_lit w1 [.int .i64 (cmpc xc zc), .int .i64 (cmpc xy zy)] 3 (w.heap.size + 2) hs 1 _ rfl
  have CO := Lib.hid (cmpor_any (w.heap.size + 2) (cmpc xc zc) (cmpc xy zy) (w1.alloc (.cells #[.int .i64 (cmpc xc zc), .int .i64 (cmpc xy zy)] 3)).drew M0 M1)
  have BA : Hid (Below w1.heap.size w1 (w1.alloc (.cells #[.int .i64 (cmpc xc zc), .int .i64 (cmpc xy zy)] 3)).drew) := Lib.hid ((Below.refl _ _).alloc (Nat.le_refl _) _).drew
  clear M0 M1
  go_region_held3 (fun w' => w'.cell? ⟨w.heap.size, 0, none⟩ = some (.int .i64 xy) ∧ w'.cell? ⟨w.heap.size, 1, none⟩ = some (.int .i64 xc) ∧ w'.cell? ⟨w.heap.size + 1, 0, none⟩ = some (.int .i64 zy) ∧ w'.cell? ⟨w.heap.size + 1, 1, none⟩ = some (.int .i64 zc)) (first | go_keep) (first | (go_at_call 69; (with_reducible refine (cmpi_any _ _ _).mono ?_); rintro e w' ⟨rfl, rfl⟩) | (go_at_call 68; (refine (CO.out).mono ?_); rintro e w2 ⟨rfl, hb2⟩; have hbb := BA.out.trans (hb2.mono BA.out.size); have k0 := cell_keep x0 hbb; have k1 := cell_keep x1 hbb; have k2 := cell_keep z0 hbb; have k3 := cell_keep z1 hbb; have HB2 := Lib.hid (HB1.out.trans (hbb.mono HB1.out.size)); clear hbb hb2))
  go_wp2
  go_ret
  exact ⟨rfl, HB2.out⟩
/-- where a loss is, or would ve -/
structure VAt (n : Nat) (g : Nat → Bk) (z : Bk) (p : Nat) (f : Bool) : Prop where
  le : p ≤ n
  lo : ∀ j, j < p → Bl (g j).c (g j).y z.c z.y
  hi : ∀ j, p ≤ j → j < n → ((g j).c = z.c ∧ (g j).y = z.y) ∨ Bl z.c z.y (g j).c (g j).y
  fd : f = true ↔ p < n ∧ (g p).c = z.c ∧ (g p).y = z.y
theorem vl_upto {n : Nat} {g : Nat → Bk} {c y : Int} {k j : Nat} (r : VRow n g) (hk : k < n) (h : Bl (g k).c (g k).y c y) (hj : j ≤ k) : Bl (g j).c (g j).y c y := by
  by_cases e : j = k
  · rw [e]; exact h
  · have := r.asc j k (by omega) hk
    unfold Bl at *; omega
theorem vl_from {n : Nat} {g : Nat → Bk} {c y : Int} {k j : Nat} (r : VRow n g) (hj : j < n) (h : ¬ Bl (g k).c (g k).y c y) (hk : k ≤ j) : ¬ Bl (g j).c (g j).y c y := by
  by_cases e : j = k
  · rw [e]; exact h
  · have := r.asc k j (by omega) hj
    unfold Bl at *; omega
theorem vl_where {n : Nat} {g : Nat → Bk} {c y : Int} {p : Nat} (_r : VRow n g) (h : ∀ j, p ≤ j → j < n → ¬ Bl (g j).c (g j).y c y) : ∀ j, p ≤ j → j < n → ((g j).c = c ∧ (g j).y = y) ∨ Bl c y (g j).c (g j).y := fun j h1 h2 => by
  have := h j h1 h2
  unfold Bl at *; omega
set_option maxHeartbeats 4000000 in
theorem vsearch_any (A : Option Addr) (n c : Nat) (g : Nat → Bk) (z : Bk) (w : World) (hr : AtR ve 3 w A n g) (hb : VRow n g) (hn : n ≤ 1000000) (hnc : n ≤ c) :
    Calls Try.prog 57 #[.slice A n c, va z, .func (.func 58) #[] #[]] w fun e w' => ∃ (p : Nat) (f : Bool), e = .returned (.tuple #[.int .i64 p, .bool f]) ∧ VAt n g z p f ∧ Below w.heap.size w w' := by
  obtain ⟨zc, zy, za⟩ := z
  have HR := Lib.hid hr
  have HW := Lib.hid hb
  simp only [va] at *
  clear hr hb
  go_enter Try.func57, Try.ntmps57
  go_wp2
  obtain ⟨w1, hw1⟩ : ∃ w1, w1 = w.alloc (.cells #[.int .i64 zy, .int .i64 zc, .int .i64 za] 35) := ⟨_, rfl⟩
  rw [← hw1]
  have HB1 : Hid (Below w.heap.size w w1) := Lib.hid (by rw [hw1]; exact (Below.refl _ _).alloc (Nat.le_refl _) _)
  have N1 := rec_lit w [.int .i64 zy, .int .i64 zc, .int .i64 za] 35 w.heap.size rfl
  rw [← hw1] at N1
  have e0 := N1 0 _ rfl
  have e1 := N1 1 _ rfl
  have e2 := N1 2 _ rfl
  clear N1 hw1
  go_loopg [9, 10] n (fun gh s9 s10 wr => ∃ lo hi : Nat, s9 = .int .i64 lo ∧ s10 = .int .i64 hi ∧ lo ≤ hi ∧ hi ≤ n ∧ hi - lo ≤ gh ∧ (∀ j, j < lo → Bl (g j).c (g j).y zc zy) ∧ (∀ j, hi ≤ j → j < n → ¬ Bl (g j).c (g j).y zc zy) ∧ Below w1.heap.size w1 wr)
  case atStart => exact ⟨0, n, rfl, rfl, Nat.zero_le _, Nat.le_refl _, by omega, fun j hj => by omega, fun j h1 h2 => by omega, Below.refl _ _⟩
  case round =>
    obtain ⟨lo, hi, rfl, rfl, hlh, hin, hg, h1, h2, hbw⟩ := hrel
    have HL := Lib.hid h1
    have HH := Lib.hid h2
    have HB := Lib.hid hbw
    have d0 := cell_keep e0 hbw
    have d1 := cell_keep e1 hbw
    have d2 := cell_keep e2 hbw
    clear h1 h2 hbw
    by_cases hlt : lo < hi
    · obtain ⟨b, off, rfl, hb, c0, c1, c2⟩ := ((HR.out.below HB1.out).below HB.out).threeV (show (lo + hi) / 2 < n by omega)
      have CC := Lib.hid fun w => vcmp_any (g ((lo + hi) / 2)) ⟨zc, zy, za⟩ w
      have b1 : (0 : Int) ≤ ((lo : Int) + (hi : Int)) / 2 := by omega
      have b2 : ((lo : Int) + (hi : Int)) / 2 < (n : Int) := by omega
      have b3 : (((lo : Int) + (hi : Int)) / 2).toNat = (lo + hi) / 2 := by omega
      by_cases hyx : vkc (g ((lo + hi) / 2)) ⟨zc, zy, za⟩ < 0
      · have HN := Lib.hid (vkc_neg.1 hyx)
        go_wp2
        go_region_held3 (fun w' => w'.cell? ⟨b, off + (lo + hi) / 2 * 3, none⟩ = some (.int .i64 (g ((lo + hi) / 2)).y) ∧ w'.cell? ⟨b, off + (lo + hi) / 2 * 3 + 1, none⟩ = some (.int .i64 (g ((lo + hi) / 2)).c) ∧ w'.cell? ⟨b, off + (lo + hi) / 2 * 3 + 2, none⟩ = some (.int .i64 (g ((lo + hi) / 2)).a) ∧ w'.cell? ⟨w.heap.size, 0, none⟩ = some (.int .i64 zy) ∧ w'.cell? ⟨w.heap.size, 1, none⟩ = some (.int .i64 zc) ∧ w'.cell? ⟨w.heap.size, 2, none⟩ = some (.int .i64 za)) (first | go_keep) (first | (go_at_call 58; (refine (CC.out _).mono ?_); rintro e w2 ⟨rfl, hb2⟩; have k0 := cell_keep (w := wr.drew) c0 hb2; have k1 := cell_keep (w := wr.drew) c1 hb2; have k2 := cell_keep (w := wr.drew) c2 hb2; have k3 := cell_keep (w := wr.drew) d0 hb2; have k4 := cell_keep (w := wr.drew) d1 hb2; have k5 := cell_keep (w := wr.drew) d2 hb2; have HB2 := Lib.hid (HB.out.trans (((below_drew wr).trans hb2).mono HB.out.size)); clear hb2))
        go_wp2
        go_roundg (hi - ((lo + hi) / 2 + 1))
        case measure => omega
        case rel => exact ⟨(lo + hi) / 2 + 1, hi, by go_num, rfl, by omega, hin, Nat.le_refl _, fun j hj => vl_upto HW.out (show (lo + hi) / 2 < n by omega) HN.out (by omega), HH.out, HB2.out⟩
      · have HN := Lib.hid (fun q => hyx (vkc_neg.2 q))
        have hyx' : decide (vkc (g ((lo + hi) / 2)) ⟨zc, zy, za⟩ < 0) = false := by simpa using hyx
        clear hyx
        go_wp2
        go_region_held3 (fun w' => w'.cell? ⟨b, off + (lo + hi) / 2 * 3, none⟩ = some (.int .i64 (g ((lo + hi) / 2)).y) ∧ w'.cell? ⟨b, off + (lo + hi) / 2 * 3 + 1, none⟩ = some (.int .i64 (g ((lo + hi) / 2)).c) ∧ w'.cell? ⟨b, off + (lo + hi) / 2 * 3 + 2, none⟩ = some (.int .i64 (g ((lo + hi) / 2)).a) ∧ w'.cell? ⟨w.heap.size, 0, none⟩ = some (.int .i64 zy) ∧ w'.cell? ⟨w.heap.size, 1, none⟩ = some (.int .i64 zc) ∧ w'.cell? ⟨w.heap.size, 2, none⟩ = some (.int .i64 za)) (first | go_keep) (first | (go_at_call 58; (refine (CC.out _).mono ?_); rintro e w2 ⟨rfl, hb2⟩; have k0 := cell_keep (w := wr.drew) c0 hb2; have k1 := cell_keep (w := wr.drew) c1 hb2; have k2 := cell_keep (w := wr.drew) c2 hb2; have k3 := cell_keep (w := wr.drew) d0 hb2; have k4 := cell_keep (w := wr.drew) d1 hb2; have k5 := cell_keep (w := wr.drew) d2 hb2; have HB2 := Lib.hid (HB.out.trans (((below_drew wr).trans hb2).mono HB.out.size)); clear hb2))
        go_wp2
        go_roundg ((lo + hi) / 2 - lo)
        case measure => omega
        case rel => exact ⟨lo, (lo + hi) / 2, rfl, by go_num, by omega, by omega, Nat.le_refl _, HL.out, fun j h1 h2 => vl_from HW.out h2 HN.out h1, HB2.out⟩
    · obtain rfl : hi = lo := by omega
      by_cases hp : hi < n
      · obtain ⟨b, off, rfl, hb, c0, c1, c2⟩ := ((HR.out.below HB1.out).below HB.out).threeV hp
        have CC := Lib.hid fun w => vcmp_any (g hi) ⟨zc, zy, za⟩ w
        have b1 : (0 : Int) ≤ (hi : Int) := by omega
        have b2 : (hi : Int) < (n : Int) := by omega
        by_cases hyx : vkc (g hi) ⟨zc, zy, za⟩ = 0
        · have HN := Lib.hid (vkc_zero.1 hyx)
          have hp' : decide ((hi : Int) < (n : Int)) = true := by simpa using hp
          have hyx' : (vkc (g hi) ⟨zc, zy, za⟩ == 0) = true := by simpa using hyx
          clear hyx hlt
          go_wp2
          go_region_held3 (fun w' => w'.cell? ⟨b, off + hi * 3, none⟩ = some (.int .i64 (g (hi)).y) ∧ w'.cell? ⟨b, off + hi * 3 + 1, none⟩ = some (.int .i64 (g (hi)).c) ∧ w'.cell? ⟨b, off + hi * 3 + 2, none⟩ = some (.int .i64 (g (hi)).a) ∧ w'.cell? ⟨w.heap.size, 0, none⟩ = some (.int .i64 zy) ∧ w'.cell? ⟨w.heap.size, 1, none⟩ = some (.int .i64 zc) ∧ w'.cell? ⟨w.heap.size, 2, none⟩ = some (.int .i64 za)) (first | go_keep) (first | (go_at_call 58; (refine (CC.out _).mono ?_); rintro e w2 ⟨rfl, hb2⟩; have k0 := cell_keep (w := wr.drew) c0 hb2; have k1 := cell_keep (w := wr.drew) c1 hb2; have k2 := cell_keep (w := wr.drew) c2 hb2; have k3 := cell_keep (w := wr.drew) d0 hb2; have k4 := cell_keep (w := wr.drew) d1 hb2; have k5 := cell_keep (w := wr.drew) d2 hb2; have HB2 := Lib.hid (HB.out.trans (((below_drew wr).trans hb2).mono HB.out.size)); clear hb2))
          go_wp2
          go_ret2
          exact ⟨hi, true, rfl, ⟨hin, HL.out, vl_where HW.out HH.out, by simpa using ⟨hp, HN.out⟩⟩, HB1.out.trans (HB2.out.mono HB1.out.size)⟩
        · have HN : Hid (¬ ((g hi).c = zc ∧ (g hi).y = zy)) := Lib.hid (fun q => hyx (vkc_zero.2 q))
          have hp' : decide ((hi : Int) < (n : Int)) = true := by simpa using hp
          have hyx' : (vkc (g hi) ⟨zc, zy, za⟩ == 0) = false := by simpa using hyx
          clear hyx hlt
          go_wp2
          go_region_held3 (fun w' => w'.cell? ⟨b, off + hi * 3, none⟩ = some (.int .i64 (g (hi)).y) ∧ w'.cell? ⟨b, off + hi * 3 + 1, none⟩ = some (.int .i64 (g (hi)).c) ∧ w'.cell? ⟨b, off + hi * 3 + 2, none⟩ = some (.int .i64 (g (hi)).a) ∧ w'.cell? ⟨w.heap.size, 0, none⟩ = some (.int .i64 zy) ∧ w'.cell? ⟨w.heap.size, 1, none⟩ = some (.int .i64 zc) ∧ w'.cell? ⟨w.heap.size, 2, none⟩ = some (.int .i64 za)) (first | go_keep) (first | (go_at_call 58; (refine (CC.out _).mono ?_); rintro e w2 ⟨rfl, hb2⟩; have k0 := cell_keep (w := wr.drew) c0 hb2; have k1 := cell_keep (w := wr.drew) c1 hb2; have k2 := cell_keep (w := wr.drew) c2 hb2; have k3 := cell_keep (w := wr.drew) d0 hb2; have k4 := cell_keep (w := wr.drew) d1 hb2; have k5 := cell_keep (w := wr.drew) d2 hb2; have HB2 := Lib.hid (HB.out.trans (((below_drew wr).trans hb2).mono HB.out.size)); clear hb2))
          go_wp2
          go_ret2
          exact ⟨hi, false, rfl, ⟨hin, HL.out, vl_where HW.out HH.out, by simpa using fun _ => HN.out⟩, HB1.out.trans (HB2.out.mono HB1.out.size)⟩
      · obtain rfl : hi = n := by omega
        have HN := Lib.hid hp
        clear hlt hp
        go_wp2
        go_big_quiet (fail)
        go_wp2
        go_ret2
        exact ⟨hi, false, rfl, ⟨hin, HL.out, vl_where HW.out HH.out, by simp⟩, HB1.out.trans ((below_drewN HB.out _).mono HB1.out.size)⟩
end Go.Proofs.Ytmeljcogoeghaaa
