/- Package roll: how two buckets compare, which one comes first, what is taken of a list for it; the way from opening to closing, what moved: a contract for each. -/
import Derived.Test.YtolmdoigcaaieaaRoMrg
import Derived.Test.YtolmdoigcaaieaaM1
import Derived.WalkKit
import Derived.WalkSpells
import Derived.WalkLawsBesides
import Derived.Lib.Hide
import Derived.IntWalk
import Derived.Laws.StructEq
import Derived.Deep.LoopGhost
import Derived.Deep.QuietTactic
import Derived.BigQuiet
import Derived.Deep.RegionHeld3
namespace Go.Proofs.Ytolmdoigcaaieaa
open Go.RowKit

set_option maxHeartbeats 2000000 in
theorem rcmp_any (x z : Bk) (w : World) : Calls Try.prog 41 #[ba x, ba z] w fun e w' => e = .returned (.int .i64 (bkc x z)) ∧ Below w.heap.size w w' := by
  obtain ⟨xc, xy, xa⟩ := x
  obtain ⟨zc, zy, za⟩ := z
  simp only [ba, bkc] at *
  go_enter Try.func41, Try.ntmps41
  go_wp2
  obtain ⟨w1, hw1⟩ : ∃ w1, w1 = (w.alloc (.cells #[.int .i64 xc, .int .i64 xy, .int .i64 xa] 26)).alloc (.cells #[.int .i64 zc, .int .i64 zy, .int .i64 za] 26) := ⟨_, rfl⟩
  have hs : w1.heap.size = w.heap.size + 2 := by rw [hw1]; simp
  have HB1 : Hid (Below w.heap.size w w1) := Lib.hid (by rw [hw1]; exact ((Below.refl _ _).alloc (Nat.le_refl _) _).alloc (by simp) _)
  have N1 := rec_lit w [.int .i64 xc, .int .i64 xy, .int .i64 xa] 26 w.heap.size rfl
  have N2 := rec_lit (w.alloc (.cells #[.int .i64 xc, .int .i64 xy, .int .i64 xa] 26)) [.int .i64 zc, .int .i64 zy, .int .i64 za] 26 (w.heap.size + 1) (by simp)
  have x0 : w1.cell? ⟨w.heap.size, 0, none⟩ = some (.int .i64 xc) := by rw [hw1]; exact cell_keep (N1 0 _ rfl) ((Below.refl _ _).alloc (Nat.le_refl _) _)
  have x1 : w1.cell? ⟨w.heap.size, 1, none⟩ = some (.int .i64 xy) := by rw [hw1]; exact cell_keep (N1 1 _ rfl) ((Below.refl _ _).alloc (Nat.le_refl _) _)
  have z0 : w1.cell? ⟨w.heap.size + 1, 0, none⟩ = some (.int .i64 zc) := by rw [hw1]; exact N2 0 _ rfl
  have z1 : w1.cell? ⟨w.heap.size + 1, 1, none⟩ = some (.int .i64 zy) := by rw [hw1]; exact N2 1 _ rfl
  rw [← hw1]
  clear hw1 N1 N2
  have M0 := rec_lit w1 [.int .i64 (cmpc xc zc), .int .i64 (cmpc xy zy)] 3 (w.heap.size + 2) hs 0 _ rfl
  have M1 := rec_lit w1 [.int .i64 (cmpc xc zc), .int .i64 (cmpc xy zy)] 3 (w.heap.size + 2) hs 1 _ rfl
  have CO := Lib.hid (cmpor_any (w.heap.size + 2) (cmpc xc zc) (cmpc xy zy) (w1.alloc (.cells #[.int .i64 (cmpc xc zc), .int .i64 (cmpc xy zy)] 3)).drew M0 M1)
  have BA : Hid (Below w1.heap.size w1 (w1.alloc (.cells #[.int .i64 (cmpc xc zc), .int .i64 (cmpc xy zy)] 3)).drew) := Lib.hid ((Below.refl _ _).alloc (Nat.le_refl _) _).drew
  clear M0 M1
  go_region_held3 (fun w' => w'.cell? ⟨w.heap.size, 0, none⟩ = some (.int .i64 xc) ∧ w'.cell? ⟨w.heap.size, 1, none⟩ = some (.int .i64 xy) ∧ w'.cell? ⟨w.heap.size + 1, 0, none⟩ = some (.int .i64 zc) ∧ w'.cell? ⟨w.heap.size + 1, 1, none⟩ = some (.int .i64 zy)) (first | go_keep) (first | (go_at_call 46; (with_reducible refine (cmpi_any _ _ _).mono ?_); rintro e w' ⟨rfl, rfl⟩) | (go_at_call 45; (refine (CO.out).mono ?_); rintro e w2 ⟨rfl, hb2⟩; have hbb := BA.out.trans (hb2.mono BA.out.size); have k0 := cell_keep x0 hbb; have k1 := cell_keep x1 hbb; have k2 := cell_keep z0 hbb; have k3 := cell_keep z1 hbb; have HB2 := Lib.hid (HB1.out.trans (hbb.mono HB1.out.size)); clear hbb hb2))
  go_wp2
  go_ret
  exact ⟨rfl, HB2.out⟩
theorem frz_lit (w : World) (l : List Value) (T : TypeId) (j : Nat) : (w.alloc (.cells l.toArray T)).frozen? ⟨w.heap.size, j, none⟩ = false := by
  have hh := heap_alloc_new w (.cells l.toArray T)
  simp only [World.frozen?, hh]; simp
theorem frz_keep {w w1 : World} {b j : Nat} (h : w.frozen? ⟨b, j, none⟩ = false) (hb : b < w.heap.size) (k : Below w.heap.size w w1) : w1.frozen? ⟨b, j, none⟩ = false := (k.frozen hb).trans h
/-- a bucket's cells as one value -/
theorem load_b {w : World} {b o : Nat} {x : Bk} (c0 : w.cell? ⟨b, o, none⟩ = some (.int .i64 x.c)) (c1 : w.cell? ⟨b, o + 1, none⟩ = some (.int .i64 x.y)) (c2 : w.cell? ⟨b, o + 2, none⟩ = some (.int .i64 x.a)) : (loadVar 26 ⟨b, o, none⟩).run Try.prog w = .ok (ba x) w := by
  go_simp
theorem results_b {fn : Func} {p : Tmp} (h : fn.results = #[.cell p 26]) (tmps : Array Value) (w : World) (b o : Nat) (x : Bk) (hp : tmps.getD p undef = .pointer (some ⟨b, o, none⟩)) (c0 : w.cell? ⟨b, o, none⟩ = some (.int .i64 x.c)) (c1 : w.cell? ⟨b, o + 1, none⟩ = some (.int .i64 x.y)) (c2 : w.cell? ⟨b, o + 2, none⟩ = some (.int .i64 x.a)) :
    (results fn tmps).run Try.prog w = .ok (ba x) w := by
  have hp' : tmps[p]?.getD undef = .pointer (some ⟨b, o, none⟩) := by simpa using hp
  simp [results, h, hp', asAddr, load_b c0 c1 c2]
set_option maxHeartbeats 4000000 in
/-- the bucket that comes first -/
theorem pfirst11 {w : World} {A A' : Option Addr} {n c n' c' : Nat} {g g' : Nat → Bk} (h : AtR be 3 w A n g) (h' : AtR be 3 w A' n' g') (hn : 0 < n ∨ 0 < n') :
    Calls Try.prog 31 #[.slice A n c, .slice A' n' c'] w fun e w' => ∃ x, e = .returned (ba x) ∧ Fst n g n' g' x ∧ Below w.heap.size w w' := by
  by_cases h0 : n = 0
  · subst h0
    obtain ⟨b', off', rfl, hb', c0', c1', c2'⟩ := h'.three (show 0 < n' by omega)
    rw [Nat.zero_mul, Nat.add_zero] at c0' c1' c2'
    have HF : Hid (Fst 0 g n' g' (g' 0)) := Lib.hid (.inr ⟨by omega, rfl, fun h => by omega⟩)
    have k1 : (0 : Int) < (n' : Int) := by omega
    clear h h'
    go_enter Try.func31, Try.ntmps31
    go_wp2
    exact bodyPost_ret (results_b rfl _ _ w.heap.size 0 (g' 0) rfl (by go_simp) (by go_simp) (by go_simp)) rfl ⟨_, rfl, HF.out, (Below.refl _ _).alloc (Nat.le_refl _) _⟩
  obtain ⟨b, off, rfl, hb, c0, c1, c2⟩ := h.three (show 0 < n by omega)
  rw [Nat.zero_mul, Nat.add_zero] at c0 c1 c2
  have kz : (0 : Int) < (n : Int) := by omega
  have kn : 0 < n := by omega
  have p0 : ((n : Int) == 0) = false := by simpa using h0
  have KB := Lib.hid fun W (k : Below w.heap.size w W) => And.intro (cell_keep c0 k) (And.intro (cell_keep c1 k) (cell_keep c2 k))
  by_cases h0' : n' = 0
  · subst h0'
    have HF : Hid (Fst n g 0 g' (g 0)) := Lib.hid (.inl ⟨by omega, rfl, fun h => by omega⟩)
    clear h h'
    have p0' : ((0 : Int) == 0) = true := rfl
    go_enter Try.func31, Try.ntmps31
    go_wp2
    go_big_quiet (fail)
    go_wp2
    refine bodyPost_ret (results_b rfl _ _ w.heap.size 0 (g 0) rfl (by go_simp) (by go_simp) (by go_simp)) rfl ⟨_, rfl, HF.out, ?_⟩
    have B := below_drewN ((Below.refl w.heap.size w).alloc (Nat.le_refl _) (.cells #[.int .i64 0, .int .i64 0, .int .i64 0] 26)) nq
    exact ((B.setCell (Nat.le_refl _) _).setCell (Nat.le_refl _) _).setCell (Nat.le_refl _) _
  · have p1 : ((n' : Int) == 0) = false := by simpa using h0'
    obtain ⟨b', off', rfl, hb', c0', c1', c2'⟩ := h'.three (show 0 < n' by omega)
    rw [Nat.zero_mul, Nat.add_zero] at c0' c1' c2'
    have CC := Lib.hid fun w => rcmp_any (g 0) (g' 0) w
    have kz' : (0 : Int) < (n' : Int) := by omega
    have kn' : 0 < n' := by omega
    clear h h'
    obtain ⟨w1, hw1⟩ : ∃ w1, w1 = w.alloc (.cells #[.int .i64 0, .int .i64 0, .int .i64 0] 26) := ⟨_, rfl⟩
    have HB1 : Hid (Below w.heap.size w w1) := Lib.hid (by rw [hw1]; exact (Below.refl _ _).alloc (Nat.le_refl _) _)
    have N1 := rec_lit w [.int .i64 0, .int .i64 0, .int .i64 0] 26 w.heap.size rfl
    rw [← hw1] at N1
    have e0 := N1 0 _ rfl
    have e1 := N1 1 _ rfl
    have e2 := N1 2 _ rfl
    have d0 := cell_keep c0 HB1.out
    have d1 := cell_keep c1 HB1.out
    have d2 := cell_keep c2 HB1.out
    have d0' := cell_keep c0' HB1.out
    have d1' := cell_keep c1' HB1.out
    have d2' := cell_keep c2' HB1.out
    have z1 : w.heap.size < w1.heap.size := by rw [hw1]; simp
    have z0 := frz_lit w [.int .i64 0, .int .i64 0, .int .i64 0] 26 0
    have z2 := frz_lit w [.int .i64 0, .int .i64 0, .int .i64 0] 26 1
    have z3 := frz_lit w [.int .i64 0, .int .i64 0, .int .i64 0] 26 2
    rw [← hw1] at z0 z2 z3
    have FZ := Lib.hid fun W (k : Below w1.heap.size w1 W) => And.intro (frz_keep z0 z1 k) (And.intro (frz_keep z2 z1 k) (frz_keep z3 z1 k))
    clear N1 c0 c1 c2 c0' c1' c2' KB z0 z1 z2 z3
    rcases (show bkc (g 0) (g' 0) < 0 ∨ ¬ bkc (g 0) (g' 0) < 0 by omega) with hlt | hlt
    · have HF : Hid (Fst n g n' g' (g 0)) := Lib.hid (.inl ⟨by omega, rfl, fun _ => bkc_neg.1 hlt⟩)
      have hlt' : decide (bkc (g 0) (g' 0) < 0) = true := by simpa using hlt
      clear hlt hn h0 h0'
      go_enter Try.func31, Try.ntmps31
      go_wp2
      rw [← hw1]
      clear hw1
      go_region_held3 (fun w' => w'.cell? ⟨b, off, none⟩ = some (.int .i64 (g 0).c) ∧ w'.cell? ⟨b, off + 1, none⟩ = some (.int .i64 (g 0).y) ∧ w'.cell? ⟨b, off + 2, none⟩ = some (.int .i64 (g 0).a) ∧ w'.cell? ⟨b', off', none⟩ = some (.int .i64 (g' 0).c) ∧ w'.cell? ⟨b', off' + 1, none⟩ = some (.int .i64 (g' 0).y) ∧ w'.cell? ⟨b', off' + 2, none⟩ = some (.int .i64 (g' 0).a)) (first | go_keep) (first | (go_at_call 41; (refine (CC.out _).mono ?_); rintro e w2 ⟨rfl, hb2⟩; have k0 := cell_keep (w := w1.drew) d0 hb2; have k1 := cell_keep (w := w1.drew) d1 hb2; have k2 := cell_keep (w := w1.drew) d2 hb2; have k3 := cell_keep (w := w1.drew) d0' hb2; have k4 := cell_keep (w := w1.drew) d1' hb2; have k5 := cell_keep (w := w1.drew) d2' hb2; have k6 := cell_keep (w := w1.drew) e0 hb2; have k7 := cell_keep (w := w1.drew) e1 hb2; have k8 := cell_keep (w := w1.drew) e2 hb2; obtain ⟨z0, z1, z2⟩ := FZ.out _ ((below_drew w1).trans hb2); have HB2 := Lib.hid (HB1.out.trans (((below_drew w1).trans hb2).mono HB1.out.size)); clear hb2))
      go_wp2
      refine bodyPost_ret (results_b rfl _ _ w.heap.size 0 (g 0) rfl (by go_simp) (by go_simp) (by go_simp)) rfl ⟨_, rfl, HF.out, ?_⟩
      exact ((HB2.out.setCell (Nat.le_refl _) _).setCell (Nat.le_refl _) _).setCell (Nat.le_refl _) _
    · have HF : Hid (Fst n g n' g' (g' 0)) := Lib.hid (.inr ⟨by omega, rfl, fun _ q => hlt (bkc_neg.2 q)⟩)
      have hlt' : decide (bkc (g 0) (g' 0) < 0) = false := by simpa using hlt
      clear hlt hn h0 h0'
      go_enter Try.func31, Try.ntmps31
      go_wp2
      rw [← hw1]
      clear hw1
      go_region_held3 (fun w' => w'.cell? ⟨b, off, none⟩ = some (.int .i64 (g 0).c) ∧ w'.cell? ⟨b, off + 1, none⟩ = some (.int .i64 (g 0).y) ∧ w'.cell? ⟨b, off + 2, none⟩ = some (.int .i64 (g 0).a) ∧ w'.cell? ⟨b', off', none⟩ = some (.int .i64 (g' 0).c) ∧ w'.cell? ⟨b', off' + 1, none⟩ = some (.int .i64 (g' 0).y) ∧ w'.cell? ⟨b', off' + 2, none⟩ = some (.int .i64 (g' 0).a)) (first | go_keep) (first | (go_at_call 41; (refine (CC.out _).mono ?_); rintro e w2 ⟨rfl, hb2⟩; have k0 := cell_keep (w := w1.drew) d0 hb2; have k1 := cell_keep (w := w1.drew) d1 hb2; have k2 := cell_keep (w := w1.drew) d2 hb2; have k3 := cell_keep (w := w1.drew) d0' hb2; have k4 := cell_keep (w := w1.drew) d1' hb2; have k5 := cell_keep (w := w1.drew) d2' hb2; have k6 := cell_keep (w := w1.drew) e0 hb2; have k7 := cell_keep (w := w1.drew) e1 hb2; have k8 := cell_keep (w := w1.drew) e2 hb2; obtain ⟨z0, z1, z2⟩ := FZ.out _ ((below_drew w1).trans hb2); have HB2 := Lib.hid (HB1.out.trans (((below_drew w1).trans hb2).mono HB1.out.size)); clear hb2))
      go_wp2
      refine bodyPost_ret (results_b rfl _ _ w.heap.size 0 (g' 0) rfl (by go_simp) (by go_simp) (by go_simp)) rfl ⟨_, rfl, HF.out, ?_⟩
      exact ((HB2.out.setCell (Nat.le_refl _) _).setCell (Nat.le_refl _) _).setCell (Nat.le_refl _) _
theorem AtR.tail {α : Type} {enc : α → List Value} {k : Nat} {w : World} {b off n : Nat} {g : Nat → α} (h : AtR enc k w (Option.some ⟨b, off, none⟩) n g) (hn : 0 < n) : AtR enc k w (Option.some ⟨b, off + k, none⟩) (n - 1) (fun j => g (1 + j)) := by
  obtain ⟨b', off', e, hb, hc⟩ := h.some hn
  injection e with e
  injection e with e1 e2
  subst e1 e2
  refine .inr ⟨b, off + k, rfl, hb, fun j hj i u hu => ?_⟩
  have := hc (1 + j) (by omega) i u hu
  rw [Nat.add_mul, Nat.one_mul] at this
  rw [show off + k + j * k + i = off + (k + j * k) + i by omega]
  exact this
/-- a part of a list -/
def Sub (A : Option Addr) (n : Nat) (g : Nat → Bk) (A2 : Option Addr) (m : Nat) (h : Nat → Bk) : Prop := ∀ W, AtR be 3 W A n g → AtR be 3 W A2 m h
set_option maxHeartbeats 4000000 in
/-- what is taken of a list for a bucket -/
theorem ptake11 {w : World} {A : Option Addr} {n c : Nat} {g : Nat → Bk} (h : AtR be 3 w A n g) (hc : n ≤ c ∧ c ≤ maxLen) (x : Bk) :
    Calls Try.prog 32 #[.slice A n c, ba x] w fun e w' => ∃ a m o A2 c2, e = .returned (.tuple #[.int .i64 a, .slice A2 m c2]) ∧ Taken n g x a m o ∧ Sub A n g A2 m (fun j => g (o + j)) ∧ (m ≤ c2 ∧ c2 ≤ maxLen) ∧ Below w.heap.size w w' := by
  obtain ⟨xc, xy, xa⟩ := x
  have HC := Lib.hid hc
  simp only [ba] at *
  obtain ⟨w1, hw1⟩ : ∃ w1, w1 = w.alloc (.cells #[.int .i64 xc, .int .i64 xy, .int .i64 xa] 26) := ⟨_, rfl⟩
  have HB1 : Hid (Below w.heap.size w w1) := Lib.hid (by rw [hw1]; exact (Below.refl _ _).alloc (Nat.le_refl _) _)
  have N1 := rec_lit w [.int .i64 xc, .int .i64 xy, .int .i64 xa] 26 w.heap.size rfl
  rw [← hw1] at N1
  have e0 := N1 0 _ rfl
  have e1 := N1 1 _ rfl
  have e2 := N1 2 _ rfl
  clear N1
  by_cases h0 : n = 0
  · subst h0
    have HT : Hid (Taken 0 g ⟨xc, xy, xa⟩ 0 0 0) := Lib.hid (.inr ⟨fun q => absurd q.1 (by omega), rfl, rfl, rfl⟩)
    clear h hc
    go_enter Try.func32, Try.ntmps32
    go_wp2
    rw [← hw1]
    clear hw1
    go_big_quiet (fail)
    go_wp2
    go_ret2
    exact ⟨_, _, _, _, _, rfl, HT.out, fun _ _ => .inl rfl, HC.out, below_drewN HB1.out _⟩
  obtain ⟨b, off, rfl, hb, c0, c1, c2⟩ := h.three (show 0 < n by omega)
  rw [Nat.zero_mul, Nat.add_zero] at c0 c1 c2
  have kz : (0 : Int) < (n : Int) := by omega
  have kn : 0 < n := by omega
  have p0 : ((n : Int) == 0) = false := by simpa using h0
  have d0 := cell_keep c0 HB1.out
  have d1 := cell_keep c1 HB1.out
  have d2 := cell_keep c2 HB1.out
  have CC := Lib.hid fun w => rcmp_any (g 0) ⟨xc, xy, xa⟩ w
  clear c0 c1 c2 h
  by_cases hq : bkc (g 0) ⟨xc, xy, xa⟩ = 0
  · have HT : Hid (Taken n g ⟨xc, xy, xa⟩ (g 0).a (n - 1) 1) := Lib.hid (.inl ⟨kn, hq, rfl, by omega, rfl⟩)
    have hq' : (bkc (g 0) ⟨xc, xy, xa⟩ != 0) = false := by simpa using hq
    have q1 : (0 : Int) ≤ 1 := by decide
    have q2 : (1 : Int) ≤ (n : Int) := by omega
    have q3 : 1 ≤ n := by omega
    have q4 : (n : Int) ≤ (c : Int) := by omega
    have q5 : n ≤ c := by omega
    by_cases hc1 : c = 1
    · obtain rfl : n = 1 := by omega
      subst hc1
      clear hq h0 hc
      go_enter Try.func32, Try.ntmps32
      go_wp2
      rw [← hw1]
      clear hw1
      go_region_held3 (fun w' => w'.cell? ⟨b, off, none⟩ = some (.int .i64 (g 0).c) ∧ w'.cell? ⟨b, off + 1, none⟩ = some (.int .i64 (g 0).y) ∧ w'.cell? ⟨b, off + 2, none⟩ = some (.int .i64 (g 0).a) ∧ w'.cell? ⟨w.heap.size, 0, none⟩ = some (.int .i64 xc) ∧ w'.cell? ⟨w.heap.size, 1, none⟩ = some (.int .i64 xy) ∧ w'.cell? ⟨w.heap.size, 2, none⟩ = some (.int .i64 xa)) (first | go_keep) (first | (go_at_call 41; (refine (CC.out _).mono ?_); rintro e w2 ⟨rfl, hb2⟩; have k0 := cell_keep (w := w1.drew) d0 hb2; have k1 := cell_keep (w := w1.drew) d1 hb2; have k2 := cell_keep (w := w1.drew) d2 hb2; have k3 := cell_keep (w := w1.drew) e0 hb2; have k4 := cell_keep (w := w1.drew) e1 hb2; have k5 := cell_keep (w := w1.drew) e2 hb2; have HB2 := Lib.hid (HB1.out.trans (((below_drew w1).trans hb2).mono HB1.out.size)); clear hb2))
      go_wp2
      go_big_quiet (fail)
      go_wp2
      go_ret2
      exact ⟨_, _, _, _, _, rfl, HT.out, fun _ _ => .inl rfl, by unfold maxLen; omega, below_drewN HB2.out _⟩
    · have q6 : ¬ (c = 1) := hc1
      have q7 : 1 < c := by omega
      clear hq h0 hc hc1
      go_enter Try.func32, Try.ntmps32
      go_wp2
      rw [← hw1]
      clear hw1
      go_region_held3 (fun w' => w'.cell? ⟨b, off, none⟩ = some (.int .i64 (g 0).c) ∧ w'.cell? ⟨b, off + 1, none⟩ = some (.int .i64 (g 0).y) ∧ w'.cell? ⟨b, off + 2, none⟩ = some (.int .i64 (g 0).a) ∧ w'.cell? ⟨w.heap.size, 0, none⟩ = some (.int .i64 xc) ∧ w'.cell? ⟨w.heap.size, 1, none⟩ = some (.int .i64 xy) ∧ w'.cell? ⟨w.heap.size, 2, none⟩ = some (.int .i64 xa)) (first | go_keep) (first | (go_at_call 41; (refine (CC.out _).mono ?_); rintro e w2 ⟨rfl, hb2⟩; have k0 := cell_keep (w := w1.drew) d0 hb2; have k1 := cell_keep (w := w1.drew) d1 hb2; have k2 := cell_keep (w := w1.drew) d2 hb2; have k3 := cell_keep (w := w1.drew) e0 hb2; have k4 := cell_keep (w := w1.drew) e1 hb2; have k5 := cell_keep (w := w1.drew) e2 hb2; have HB2 := Lib.hid (HB1.out.trans (((below_drew w1).trans hb2).mono HB1.out.size)); clear hb2))
      go_wp2
      go_big_quiet (fail)
      go_wp2
      go_ret2
      exact ⟨_, _, _, _, _, rfl, HT.out, fun _ h => h.tail kn, by have := HC.out; omega, below_drewN HB2.out _⟩
  · have HT : Hid (Taken n g ⟨xc, xy, xa⟩ 0 n 0) := Lib.hid (.inr ⟨fun q => hq q.2, rfl, rfl, rfl⟩)
    have hq' : (bkc (g 0) ⟨xc, xy, xa⟩ != 0) = true := by simpa using hq
    clear hq h0 hc
    go_enter Try.func32, Try.ntmps32
    go_wp2
    rw [← hw1]
    clear hw1
    go_region_held3 (fun w' => w'.cell? ⟨b, off, none⟩ = some (.int .i64 (g 0).c) ∧ w'.cell? ⟨b, off + 1, none⟩ = some (.int .i64 (g 0).y) ∧ w'.cell? ⟨b, off + 2, none⟩ = some (.int .i64 (g 0).a) ∧ w'.cell? ⟨w.heap.size, 0, none⟩ = some (.int .i64 xc) ∧ w'.cell? ⟨w.heap.size, 1, none⟩ = some (.int .i64 xy) ∧ w'.cell? ⟨w.heap.size, 2, none⟩ = some (.int .i64 xa)) (first | go_keep) (first | (go_at_call 41; (refine (CC.out _).mono ?_); rintro e w2 ⟨rfl, hb2⟩; have k0 := cell_keep (w := w1.drew) d0 hb2; have k1 := cell_keep (w := w1.drew) d1 hb2; have k2 := cell_keep (w := w1.drew) d2 hb2; have k3 := cell_keep (w := w1.drew) e0 hb2; have k4 := cell_keep (w := w1.drew) e1 hb2; have k5 := cell_keep (w := w1.drew) e2 hb2; have HB2 := Lib.hid (HB1.out.trans (((below_drew w1).trans hb2).mono HB1.out.size)); clear hb2))
    go_wp2
    go_ret2
    exact ⟨_, _, _, _, _, rfl, HT.out, fun _ h => (by simpa only [Nat.zero_add] using h), HC.out, HB2.out⟩
end Go.Proofs.Ytolmdoigcaaieaa
