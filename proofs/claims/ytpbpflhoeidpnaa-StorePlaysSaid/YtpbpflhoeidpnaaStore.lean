/- Package store's functions that only read: a contract for each. -/
import Derived.Test.YtpbpflhoeidpnaaJrn
import Derived.Test.YtpbpflhoeidpnaaJour4
import Derived.Test.YtpbpflhoeidpnaaEql
import Derived.Test.YtpbpflhoeidpnaaPeriod
import Derived.WalkKit
import Derived.WalkSpells
import Derived.WalkLawsBesides
import Derived.Lib.Hide
import Derived.Deep.LoopGhost
import Derived.Deep.QuietTactic
import Derived.BigQuiet
import Derived.Deep.RegionHeld3
namespace Go.Proofs.Ytpbpflhoeidpnaa
open Go.RowKit

/-- a pointer to a store -/
abbrev ptr (sb : Nat) : Value := .pointer (some ⟨sb, 0, none⟩)
theorem ent_some {ent : ByteArray} (h : ent ≠ ⟨#[]⟩) : ent.toList.isEmpty = false ∧ ¬ ent.toList = [] := by
  have e : (⟨#[]⟩ : ByteArray).toList = [] := by rw [ByteArray.toList_eq]
  have k : ¬ ent.toList = [] := fun q => h ((bytes_is ent ⟨#[]⟩).1 (by rw [e, q]; rfl))
  exact ⟨by simpa using k, k⟩
theorem new_any (w : World) : Calls Try.prog 12 #[] w fun e w' => e = .returned (ptr w.heap.size) ∧ w' = w.alloc (.cells #[.slice none 0 0] 73) := by
  go_enter Try.func12, Try.ntmps12
  go_wp2
  go_ret
  exact ⟨rfl, rfl⟩
/-- a new block, kept -/
theorem one_cells {w w' : World} {xs : Array Value} {T : TypeId} (h : Below (w.alloc (.cells xs T)).heap.size (w.alloc (.cells xs T)) w') :
    (∀ j, w'.cell? ⟨w.heap.size, j, none⟩ = xs[j]?) ∧ (∀ j, w'.frozen? ⟨w.heap.size, j, none⟩ = false) ∧ w.heap.size < w'.heap.size ∧ Below w.heap.size w w' := by
  have z : (w.alloc (.cells xs T)).heap.size = w.heap.size + 1 := by simp
  have k := (h.block w.heap.size (by omega)).trans (heap_alloc_new w _)
  exact ⟨fun j => cell_of_row w' w.heap.size j _ T (0, 0) k, fun j => frozen_of_row w' w.heap.size j _ T k, by have := h.size; omega, ((Below.refl _ _).alloc (Nat.le_refl _) _).trans (h.mono (by omega))⟩
/-- two new blocks, kept -/
theorem two_cells (w w' : World) (xs ys : Array Value) (T U : TypeId) (h : Below ((w.alloc (.cells xs T)).alloc (.cells ys U)).heap.size ((w.alloc (.cells xs T)).alloc (.cells ys U)) w') :
    (∀ j, w'.cell? ⟨w.heap.size, j, none⟩ = xs[j]?) ∧ (∀ j, w'.cell? ⟨w.heap.size + 1, j, none⟩ = ys[j]?) ∧ (∀ j, w'.frozen? ⟨w.heap.size, j, none⟩ = false) ∧ ∀ j, w'.frozen? ⟨w.heap.size + 1, j, none⟩ = false := by
  have h1 : ((w.alloc (.cells xs T)).alloc (.cells ys U)).heap[w.heap.size]? = some (.cells xs T) := by
    rw [Below.heap_alloc _ _ _ (by simp)]; exact heap_alloc_new w _
  have h2 : ((w.alloc (.cells xs T)).alloc (.cells ys U)).heap[w.heap.size + 1]? = some (.cells ys U) := by
    have := heap_alloc_new (w.alloc (.cells xs T)) (.cells ys U)
    simpa using this
  have z : ((w.alloc (.cells xs T)).alloc (.cells ys U)).heap.size = w.heap.size + 1 + 1 := by simp
  have k1 := (h.block w.heap.size (by omega)).trans h1
  have k2 := (h.block (w.heap.size + 1) (by omega)).trans h2
  exact ⟨fun j => cell_of_row w' w.heap.size j _ T (0, 0) k1, fun j => cell_of_row w' (w.heap.size + 1) j _ U (0, 0) k2, fun j => frozen_of_row w' w.heap.size j _ T k1, fun j => frozen_of_row w' (w.heap.size + 1) j _ U k2⟩
set_option maxHeartbeats 4000000 in
set_option maxRecDepth 100000 in
theorem copied_any (x : Jn) (l : Value) (w : World) (hl : SomeL l w x.n x.ga x.gm) (hn : x.n ≤ 1000000) :
    Calls Try.prog 48 #[ja x l] w fun e w' => ∃ l', e = .returned (ja x l') ∧ OwnL w' 26 w.heap.size l' x.n x.ga x.gm ∧ Below w.heap.size w w' := by
  obtain ⟨i0, hi, hz0, hz1, hz2⟩ := info_parts line_info
  obtain ⟨A, c, rfl, h1, h2, h3, h4⟩ := hl
  obtain ⟨s, ent, p, kd, of, n, ga, gm⟩ := x
  have HA := Lib.hid h4
  have HN := Lib.hid h3
  simp only [ja] at *
  clear h4 h3
  go_enter Try.func48, Try.ntmps48
  go_wp2_with (at_builtin; (refine wpList_app_l rfl _ (.tmp 4) rfl line_type hi hz0 hz1 hz2 _ (w.heap.size + 2) 0 n c (.slice none 0 0) A (fun _ => 0) (fun _ => 0) ga gm rfl rfl (OwnL.nil _ _ _ _ _) ((HA.out.below ((Below.refl w.heap.size w).alloc (Nat.le_refl _) _)).below ((Below.refl _ _).alloc (Nat.le_refl _) _)) HN.out (by omega) hn (Below.refl _ _) (by simp) ?_; intro v' w' ho' hb' hg'; obtain ⟨A2, c2, rfl, _, _, _⟩ := ho'.form; have HO' := Lib.hid ho'; have hg2 := Below.grown (Below.refl _ _) hg' (Nat.le_refl _) (by simp [Value.ownBlock]); have hcc := two_cells _ _ _ _ _ _ hg2; have q0 : w'.cell? ⟨w.heap.size, 0, none⟩ = some (.int .i64 s) := hcc.1 0; have q1 : w'.cell? ⟨w.heap.size, 1, none⟩ = some (.string ent) := hcc.1 1; have q2 : w'.cell? ⟨w.heap.size, 2, none⟩ = some (.int .i64 p) := hcc.1 2; have q3 : w'.cell? ⟨w.heap.size, 3, none⟩ = some (.int .i64 kd) := hcc.1 3; have q4 : w'.cell? ⟨w.heap.size, 4, none⟩ = some (.int .i64 of) := hcc.1 4; have q5 : w'.cell? ⟨w.heap.size, 5, none⟩ = some (.slice A n c) := hcc.1 5; have r0 : w'.cell? ⟨w.heap.size + 1, 0, none⟩ = some (.int .i64 0) := hcc.2.1 0; have r1 : w'.cell? ⟨w.heap.size + 1, 1, none⟩ = some (.string ⟨#[]⟩) := hcc.2.1 1; have r2 : w'.cell? ⟨w.heap.size + 1, 2, none⟩ = some (.int .i64 0) := hcc.2.1 2; have r3 : w'.cell? ⟨w.heap.size + 1, 3, none⟩ = some (.int .i64 0) := hcc.2.1 3; have r4 : w'.cell? ⟨w.heap.size + 1, 4, none⟩ = some (.int .i64 0) := hcc.2.1 4; have r5 : w'.cell? ⟨w.heap.size + 1, 5, none⟩ = some (.slice none 0 0) := hcc.2.1 5; have f5 := hcc.2.2.1 5; have s5 := World.cell?_setCell_same w' ⟨w.heap.size, 5, none⟩ (.slice A2 n c2) q5; have f0' := hcc.2.2.2 0; have f1' := hcc.2.2.2 1; have f2' := hcc.2.2.2 2; have f3' := hcc.2.2.2 3; have f4' := hcc.2.2.2 4; have f5' := hcc.2.2.2 5; clear hcc; have HB' := Lib.hid hg2; clear ho' hb' hg' hg2))
  (try simp only [Exit.inBlock, Exit.then])
  refine bodyPost_ret (results_j rfl _ _ (w.heap.size + 1) 0 ⟨s, ent, p, kd, of, n, ga, gm⟩ (.slice A2 n c2) rfl ?_) rfl ⟨.slice A2 n c2, rfl, ?_, ?_⟩
  · refine ⟨?_, ?_, ?_, ?_, ?_, ?_⟩ <;> go_simp
  · have o := HO'.out
    rw [Nat.zero_add] at o
    have o2 := (o.mono (base' := w.heap.size) (by omega)).ext fun j hj => ⟨cat_ge (by omega), cat_ge (by omega)⟩
    have far : ∀ b, (Value.slice A2 n c2).ownBlock = some b → w.heap.size + 2 ≤ b := fun b h => (World.ownsRow.lt o b h).1
    refine ownL_blocks o2 fun b h => ?_
    have := far b h
    exact (set6_block (w'.setCell ⟨w.heap.size, 5, none⟩ (.slice A2 n c2)) (w.heap.size + 1) 0 ⟨s, ent, p, kd, of, n, ga, gm⟩ (.slice A2 n c2) b (by omega)).trans (Below.heap_setCell _ _ _ _ (by show b ≠ w.heap.size; omega))
  · have hb := ((Below.refl w.heap.size w).alloc (Nat.le_refl _) (.cells #[.int .i64 s, .string ent, .int .i64 p, .int .i64 kd, .int .i64 of, .slice A n c] 44)).alloc (by simp) (.cells #[.int .i64 0, .string ⟨#[]⟩, .int .i64 0, .int .i64 0, .int .i64 0, .slice none 0 0] 44)
    exact set6_below (x := ⟨s, ent, p, kd, of, n, ga, gm⟩) (l := .slice A2 n c2) (b := w.heap.size + 1) (o := 0) ((hb.trans (HB'.out.mono (by simp; omega))).setCell (p := ⟨w.heap.size, 5, none⟩) (Nat.le_refl _) _) (by omega)

section
variable {w : World} {O : Nat → Nat} {base t sb n : Nat} {v : Value} {L : Nat → Value} {js : Nat → Jn}
set_option maxHeartbeats 4000000 in
set_option maxRecDepth 100000 in
theorem find_yes (s : StV w O base t sb v L n js) (k : Nat) (hk : k < n) :
    Calls Try.prog 68 #[ptr sb, .int .i64 ((k : Int) + 1)] w fun e w' => e = .returned (.tuple #[ja (js k) (L k), .bool true]) ∧ Below w.heap.size w w' := by
  have hn := s.inv.1
  have sc := s.cell
  obtain ⟨b, c, rfl, h1, h2, h3, h4, h5⟩ := s.own.some (by omega)
  obtain ⟨c0, c1, c2, c3, c4, c5⟩ := h5 k hk
  have SL := s.lt
  obtain ⟨⟨Ak, ck, hL, _, _, _, _⟩, _⟩ := s.lines k hk
  rw [hL] at c5
  rw [hL]
  clear s h5 h3 hL
  go_enter Try.func68, Try.ntmps68
  go_wp2
  (try simp only [Exit.inBlock, Exit.then])
  refine bodyPost_ret (results_jb rfl _ _ w.heap.size 0 (js k) (.slice Ak (js k).n ck) rfl ?_) rfl ⟨rfl, ?_⟩
  · refine ⟨?_, ?_, ?_, ?_, ?_, ?_⟩ <;> go_simp
  · exact (Below.refl _ _).alloc (Nat.le_refl _) _
theorem find_no (s : StV w O base t sb v L n js) (k : Int) (hk : k < 1 ∨ (n : Int) < k) :
    Calls Try.prog 68 #[ptr sb, .int .i64 k] w fun e w' => e = .returned (.tuple #[ja ⟨0, ⟨#[]⟩, 0, 0, 0, 0, fun _ => 0, fun _ => 0⟩ (.slice none 0 0), .bool false]) ∧ Below w.heap.size w w' := by
  have hn := s.inv.1
  have sc := s.cell
  have SL := s.lt
  obtain ⟨A, c, rfl, h1, h2, h3⟩ := s.own.form
  clear s h3
  rcases (show k < 1 ∨ (¬ k < 1 ∧ (n : Int) < k) by omega) with hq | ⟨hq1, hq⟩
  all_goals
    clear hk
    go_enter Try.func68, Try.ntmps68
    go_wp2
    (try simp only [Exit.inBlock, Exit.then])
    refine bodyPost_ret (results_jb rfl _ _ w.heap.size 0 ⟨0, ⟨#[]⟩, 0, 0, 0, 0, fun _ => 0, fun _ => 0⟩ (.slice none 0 0) rfl ?_) rfl ⟨rfl, ?_⟩
    · refine ⟨?_, ?_, ?_, ?_, ?_, ?_⟩ <;> go_simp
    · exact (Below.refl _ _).alloc (Nat.le_refl _) _
set_option maxHeartbeats 4000000 in
set_option maxRecDepth 100000 in
theorem balance_any (s : StV w O base t sb v L n js) (ent : ByteArray) (a u : Int) :
    Calls Try.prog 17 #[ptr sb, .string ent, .int .i64 a, .int .i64 u] w fun e w' => e = .returned (.int .i64 (bal js n ent a u)) ∧ Below w.heap.size w w' := by
  have hn := s.inv.1
  have sc := s.cell
  obtain ⟨A, c, rfl, h1, h2, h3⟩ := s.own.form
  have HS := Lib.hid s
  clear s h3
  go_enter Try.func17, Try.ntmps17
  go_wp2
  go_loopg [9, 17] n (fun gh x i wr => ∃ k : Nat, k ≤ n ∧ gh = n - k ∧ i = .int .i64 k ∧ x = .int .i64 (bal js k ent a u) ∧ Below w.heap.size w wr)
  case atStart => exact ⟨0, Nat.zero_le _, by omega, rfl, rfl, Below.refl _ _⟩
  case round =>
    obtain ⟨k, hk, hgk, rfl, rfl, hbw⟩ := hrel
    have HGK := Lib.hid hgk
    have HB := Lib.hid hbw
    have b0 := bal_bd HS.out.inv.2.1 ent a u k hk
    obtain ⟨b1, b2⟩ := b0
    obtain ⟨x, hx⟩ : ∃ x, bal js k ent a u = x := ⟨_, rfl⟩
    rw [hx] at b1 b2
    rw [hx]
    have HX := Lib.hid hx
    clear hgk hbw hx
    by_cases hlt : k < n
    · obtain ⟨b, rfl, hb, h5⟩ := HS.out.at k hlt
      obtain ⟨c0, c1, c2, c3, c4, c5⟩ := h5.below hb HB.out
      obtain ⟨⟨Ak, ck, hL, k1, k2, k3, k4⟩, _⟩ := HS.out.lines k hlt
      have gd := (HS.out.inv.2.1 k hlt).1
      have m0 := gd.sm_mon a
      obtain ⟨m1, m2⟩ := m0
      rw [hL] at c5
      have HA := Lib.hid (k4.below HB.out)
      have SU : Hid (Summ (js k).n (js k).gm) := Lib.hid ⟨by have := gd.1; omega, fun j hj => (gd.2.1 j hj).2.2.2⟩
      have YES : Hid ((js k).ent = ent ∧ (js k).per ≤ u → bal js (k + 1) ent a u = x + sm a (js k).ga (js k).gm (js k).n) := Lib.hid fun q => by rw [bal_yes q, HX.out]
      have NO : Hid (¬ ((js k).ent = ent ∧ (js k).per ≤ u) → bal js (k + 1) ent a u = x) := Lib.hid fun q => by rw [bal_no q, HX.out]
      clear h5 gd hL k3 k4
      obtain ⟨m, hm⟩ : ∃ m, sm a (js k).ga (js k).gm (js k).n = m := ⟨_, rfl⟩
      rw [hm] at m1 m2
      have NT := Lib.hid fun w' hA => jnet_yes Ak (js k).n ck (js k).ga (js k).gm a w' hA SU
      rw [hm] at NT YES
      clear hm
      by_cases hq : (js k).ent = ent
      · have q1 := (bytes_is _ _).2 hq
        by_cases hp : (js k).per ≤ u
        · have HY : Hid (bal js (k + 1) ent a u = x + m) := Lib.hid (YES.out ⟨hq, hp⟩)
          clear hq YES NO
          go_wp2_with (first | (go_at_call 49; (with_reducible refine (NT.out _ (HA.out.below ((Below.refl _ _).alloc (Nat.le_refl _) _))).mono ?_); rintro e w3 ⟨rfl, hb3⟩; have HB3 := Lib.hid (((Below.refl wr.heap.size wr).alloc (Nat.le_refl _) _).trans (hb3.mono (by simp))); clear hb3))
          go_roundg (n - (k + 1))
          case measure => have := HGK.out; omega
          case rel => exact ⟨k + 1, by omega, rfl, by go_num, by rw [HY.out], HB.out.trans (HB3.out.mono HB.out.size)⟩
        · have hp1 : decide ((js k).per ≤ u) = false := by simpa using hp
          have HY : Hid (bal js (k + 1) ent a u = x) := Lib.hid (NO.out fun q => hp q.2)
          clear hq hp YES NO
          go_wp2
          go_roundg (n - (k + 1))
          case measure => have := HGK.out; omega
          case rel => exact ⟨k + 1, by omega, rfl, by go_num, by rw [HY.out], HB.out.alloc HB.out.size _⟩
      · have q1 := bytes_not hq
        have HY : Hid (bal js (k + 1) ent a u = x) := Lib.hid (NO.out fun q => hq q.1)
        clear hq YES NO
        go_wp2
        go_roundg (n - (k + 1))
        case measure => have := HGK.out; omega
        case rel => exact ⟨k + 1, by omega, rfl, by go_num, by rw [HY.out], HB.out.alloc HB.out.size _⟩
    · obtain rfl : k = n := by omega
      clear hlt
      go_wp2
      go_ret
      exact ⟨ret_i HX.out.symm, HB.out⟩
end
end Go.Proofs.Ytpbpflhoeidpnaa
