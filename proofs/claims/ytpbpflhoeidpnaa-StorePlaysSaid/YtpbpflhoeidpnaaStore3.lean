/- Package store: whether a journal goes beyond what may be; check; Post where it is refused: a contract for each. -/
import Derived.Test.YtpbpflhoeidpnaaStore2
import Derived.WalkKit
import Derived.WalkSpells
import Derived.WalkLawsBesides
import Derived.Lib.Hide
import Derived.Deep.LoopGhost
import Derived.Deep.QuietTactic
import Derived.BigQuiet
import Derived.Deep.RegionHeld3
namespace Go.Proofs.Ytpbpflhoeidpnaa
open Go.RowKit

theorem cell_keep {w w' : World} {p : Addr} {u : Value} (h : w.cell? p = some u) (hb : Below w.heap.size w w') : w'.cell? p = some u :=
  (World.cell?_of_block (hb.block _ (World.block_lt_of_cell? _ _ h))).trans h
theorem below_drew (w : World) : Below w.heap.size w w.drew := ⟨rfl, rfl, rfl, Nat.le_refl _, fun _ _ => rfl⟩
theorem JC.six {w : World} {b : Nat} {x : Jn} {l : Value} (h : JC w b 0 x l) : w.cell? ⟨b, 0, none⟩ = some (.int .i64 x.seq) ∧ w.cell? ⟨b, 1, none⟩ = some (.string x.ent) ∧ w.cell? ⟨b, 2, none⟩ = some (.int .i64 x.per) ∧ w.cell? ⟨b, 3, none⟩ = some (.int .i64 x.kind) ∧ w.cell? ⟨b, 4, none⟩ = some (.int .i64 x.of) ∧ w.cell? ⟨b, 5, none⟩ = some l := h
/-- a journal in a new block -/
theorem JC.lit (w : World) (x : Jn) (l : Value) (T : TypeId) : JC (w.alloc (.cells #[.int .i64 x.seq, .string x.ent, .int .i64 x.per, .int .i64 x.kind, .int .i64 x.of, l] T)) w.heap.size 0 x l := by
  have h := one_cells (Below.refl (w.alloc (.cells #[.int .i64 x.seq, .string x.ent, .int .i64 x.per, .int .i64 x.kind, .int .i64 x.of, l] T)).heap.size (w.alloc (.cells #[.int .i64 x.seq, .string x.ent, .int .i64 x.per, .int .i64 x.kind, .int .i64 x.of, l] T)))
  exact ⟨h.1 0, h.1 1, h.1 2, h.1 3, h.1 4, h.1 5⟩
section
variable {w : World} {O : Nat → Nat} {base t sb n : Nat} {v : Value} {L : Nat → Value} {js : Nat → Jn}
set_option maxHeartbeats 4000000 in
set_option maxRecDepth 100000 in
theorem over_loop (s : StV w O base t sb v L n js) (x : Jn) (l : Value) (i : Nat) (hl : SomeL l w x.n x.ga x.gm) (hg : Good x.n x.ga x.gm) (hi : i ≤ x.n) (h0 : ∀ j, j < i → Mon (bal js n x.ent (x.ga j) 399 + x.gm j)) (h1 : i < x.n → ¬ Mon (bal js n x.ent (x.ga i) 399 + x.gm i)) :
    Calls Try.prog 63 #[ptr sb, ja x l] w fun e w' => e = .returned (.bool (decide (i < x.n))) ∧ Below w.heap.size w w' := by
  obtain ⟨s0, ent, p, kd, of, m, ga, gm⟩ := x
  obtain ⟨A, c, rfl, _, _, _, hA⟩ := hl
  simp only [ja] at *
  have hm := hg.1
  have HBAL := Lib.hid s.inv.2.2
  have HS := Lib.hid s
  have HG := Lib.hid hg
  have H0 := Lib.hid h0
  have H1 := Lib.hid h1
  have HA := Lib.hid hA
  clear s hg h0 h1 hA
  go_enter Try.func63, Try.ntmps63
  go_wp2
  have hx1 : (w.alloc (.cells #[.int .i64 s0, .string ent, .int .i64 p, .int .i64 kd, .int .i64 of, .slice A m c] 44)).cell? ⟨w.heap.size, 1, none⟩ = some (.string ent) := by simp
  have HX1 := Lib.hid hx1
  have HBA := Lib.hid ((Below.refl w.heap.size w).alloc (Nat.le_refl _) (.cells #[.int .i64 s0, .string ent, .int .i64 p, .int .i64 kd, .int .i64 of, .slice A m c] 44))
  obtain ⟨wa, hwa⟩ : ∃ wa, w.alloc (.cells #[.int .i64 s0, .string ent, .int .i64 p, .int .i64 kd, .int .i64 of, .slice A m c] 44) = wa := ⟨_, rfl⟩
  rw [hwa] at HX1 HBA
  rw [hwa]
  clear hx1 hwa
  go_loopg [10] m (fun gh s wr => ∃ j : Nat, j ≤ i ∧ gh = m - j ∧ s = .int .i64 j ∧ Below wa.heap.size wa wr)
  case atStart => exact ⟨0, Nat.zero_le _, by omega, rfl, Below.refl _ _⟩
  case round =>
    obtain ⟨j, hj, hgj, rfl, hbj⟩ := hrel
    have HGJ := Lib.hid hgj
    have HBJ := Lib.hid hbj
    have HBW := Lib.hid (HBA.out.trans (hbj.mono HBA.out.size))
    have y1 := cell_keep HX1.out hbj
    clear hgj hbj
    by_cases hlt : j < m
    · obtain ⟨b, off, rfl, hb, hc⟩ := HA.out.some (by omega)
      have ck := (HBW.out.cell (p := ⟨b, off + j * 2, none⟩) hb).trans (hc j hlt).1
      have ck' := (HBW.out.cell (p := ⟨b, off + j * 2 + 1, none⟩) hb).trans (hc j hlt).2
      have mg := (HG.out.2.1 j hlt).2.2.2
      have mb := HBAL.out ent (ga j)
      have BC : Hid (∀ w', Below w.heap.size w w' → Calls Try.prog 17 #[ptr sb, .string ent, .int .i64 (ga j), .int .i64 399] w' fun e w2 => e = .returned (.int .i64 (bal js n ent (ga j) 399)) ∧ Below w'.heap.size w' w2) := Lib.hid fun w' hb => balance_any (HS.out.below hb) ent (ga j) 399
      have HQ0 : Hid (j < i → Mon (bal js n ent (ga j) 399 + gm j)) := Lib.hid (H0.out j)
      have HQ1 : Hid (j = i → ¬ Mon (bal js n ent (ga j) 399 + gm j)) := Lib.hid fun e => by rw [e]; exact H1.out (by show i < m; omega)
      obtain ⟨B, hB⟩ : ∃ B, bal js n ent (ga j) 399 = B := ⟨_, rfl⟩
      rw [hB] at BC HQ0 HQ1 mb
      obtain ⟨g1, g2⟩ := mg
      obtain ⟨b1, b2⟩ := mb
      clear hc hB
      go_wp2
      obtain ⟨w4, hw4⟩ : ∃ w4, wr.alloc (.cells #[.int .i64 (ga j), .int .i64 (gm j)] 26) = w4 := ⟨_, rfl⟩
      rw [hw4]
      have hb4 : Below wr.heap.size wr w4 := by rw [← hw4]; exact (Below.refl _ _).alloc (Nat.le_refl _) _
      have d1 := cell_keep y1 hb4
      have d2 : w4.cell? ⟨wr.heap.size, 0, none⟩ = some (.int .i64 (ga j)) := by rw [← hw4]; simp
      have d3 : w4.cell? ⟨wr.heap.size, 1, none⟩ = some (.int .i64 (gm j)) := by rw [← hw4]; simp
      have HB4 := Lib.hid (HBW.out.trans (hb4.mono HBW.out.size))
      have HBA4 := Lib.hid (HBJ.out.trans (hb4.mono HBJ.out.size))
      have hdr := below_drew w4
      have e1 : IntKind.i64.wrap (B + gm j) = B + gm j := IntWalk.i64_in _ (by omega)
      clear hb4 hw4 ck ck' y1
      by_cases hji : j < i
      · have mm0 := HQ0.out hji
        obtain ⟨n1, n2⟩ := mm0
        go_region_held3 (fun w' => w'.cell? ⟨w.heap.size, 1, none⟩ = some (.string ent) ∧ w'.cell? ⟨wr.heap.size, 0, none⟩ = some (.int .i64 (ga j)) ∧ w'.cell? ⟨wr.heap.size, 1, none⟩ = some (.int .i64 (gm j)) ∧ Below w4.heap.size w4 w') (first | go_keep) (first | (go_at_call 17; (with_reducible refine (BC.out _ (HB4.out.trans (hdr.mono HB4.out.size))).mono ?_); rintro e w5 ⟨rfl, hb5⟩; have k1 := cell_keep (w := w4.drew) d1 hb5; have k2 := cell_keep (w := w4.drew) d2 hb5; have k3 := cell_keep (w := w4.drew) d3 hb5; have k4 := hdr.trans hb5; clear hb5) | (go_at_call 73; (with_reducible refine (money_yes _ _ n1 n2).mono ?_); rintro e w' ⟨rfl, rfl⟩))
        have HB5 := Lib.hid (HBA4.out.trans (k4.mono HBA4.out.size))
        clear e1
        go_wp2
        go_roundg (m - (j + 1))
        case measure => have := HGJ.out; omega
        case rel => exact ⟨j + 1, by omega, rfl, by go_num, HB5.out⟩
      · obtain rfl : j = i := by omega
        have HM : Hid (B + gm j < -100000000000 ∨ 100000000000 < B + gm j) := Lib.hid (mon_no (HQ1.out rfl))
        have HI : Hid (decide (j < m) = true) := Lib.hid (by simpa using hlt)
        go_region_held3 (fun w' => w'.cell? ⟨w.heap.size, 1, none⟩ = some (.string ent) ∧ w'.cell? ⟨wr.heap.size, 0, none⟩ = some (.int .i64 (ga j)) ∧ w'.cell? ⟨wr.heap.size, 1, none⟩ = some (.int .i64 (gm j)) ∧ Below w4.heap.size w4 w') (first | go_keep) (first | (go_at_call 17; (with_reducible refine (BC.out _ (HB4.out.trans (hdr.mono HB4.out.size))).mono ?_); rintro e w5 ⟨rfl, hb5⟩; have k1 := cell_keep (w := w4.drew) d1 hb5; have k2 := cell_keep (w := w4.drew) d2 hb5; have k3 := cell_keep (w := w4.drew) d3 hb5; have k4 := hdr.trans hb5; clear hb5) | (go_at_call 73; (with_reducible refine (money_no _ _ HM.out).mono ?_); rintro e w' ⟨rfl, rfl⟩))
        have HB5 := Lib.hid (HB4.out.trans (k4.mono HB4.out.size))
        clear e1
        go_wp2
        go_ret
        exact ⟨ret_b (by first | rfl | exact HI.out.symm), HB5.out⟩
    · have HI : Hid (decide (i < m) = false) := Lib.hid (by simp; omega)
      obtain rfl : j = m := by omega
      clear hlt
      go_wp2
      go_ret
      exact ⟨ret_b (by first | rfl | exact HI.out.symm), HBW.out⟩
theorem over_yes (s : StV w O base t sb v L n js) (x : Jn) (l : Value) (hl : SomeL l w x.n x.ga x.gm) (hg : Good x.n x.ga x.gm) (h : POver js n x.ent x.n x.ga x.gm) :
    Calls Try.prog 63 #[ptr sb, ja x l] w fun e w' => e = .returned (.bool true) ∧ Below w.heap.size w w' := by
  obtain ⟨i, a, b, d⟩ := first_bad (P := fun j => Mon (bal js n x.ent (x.ga j) 399 + x.gm j)) (n := x.n) fun q => by obtain ⟨j, hj, e⟩ := h; exact e (q j hj)
  have := over_loop s x l i hl hg (by omega) b fun _ => d
  rwa [show decide (i < x.n) = true by simpa using a] at this
theorem over_no (s : StV w O base t sb v L n js) (x : Jn) (l : Value) (hl : SomeL l w x.n x.ga x.gm) (hg : Good x.n x.ga x.gm) (h : ¬ POver js n x.ent x.n x.ga x.gm) :
    Calls Try.prog 63 #[ptr sb, ja x l] w fun e w' => e = .returned (.bool false) ∧ Below w.heap.size w w' := by
  have := over_loop s x l x.n hl hg (Nat.le_refl _) (fun j hj => Classical.byContradiction fun q => h ⟨j, hj, q⟩) fun q => by omega
  rwa [show decide (x.n < x.n) = false by simp] at this
end
end Go.Proofs.Ytpbpflhoeidpnaa
