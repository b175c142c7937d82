/- Package store's checks: where a journal may stand, what it may reverse: a contract for each. -/
import Derived.Test.YtpbpflhoeidpnaaStore
import Derived.Test.YtpbpflhoeidpnaaJour3
import Derived.WalkKit
import Derived.WalkSpells
import Derived.WalkLawsBesides
import Derived.Lib.Hide
import Derived.Deep.LoopGhost
import Derived.Deep.QuietTactic
import Derived.BigQuiet
import Derived.Deep.RegionHeld3
namespace Go.Proofs.Ytpbpflhoeidpnaa
open Go.RowKit

section
variable {w : World} {O : Nat → Nat} {base t sb n : Nat} {v : Value} {L : Nat → Value} {js : Nat → Jn}
set_option maxHeartbeats 4000000 in
set_option maxRecDepth 100000 in
/-- what is told of a journal's kind and place -/
theorem right_yes7 (x : Jn) (l : Value) (w : World) (h : PArg x.ent x.per x.kind x.of) : Calls Try.prog 59 #[ja x l] w fun e w' => e = .returned (.bool true) ∧ Below w.heap.size w w' := by
  obtain ⟨s, ent, p, kd, of, n, ga, gm⟩ := x
  obtain ⟨h1, h2, h3, h4⟩ := h
  simp only [ja] at *
  obtain ⟨q1, q1'⟩ := ent_some h1
  have PR := Lib.hid fun w => pright_yes p w h2 h3
  rcases h4 with rfl | ⟨rfl, rfl⟩
  all_goals
    clear h1 h2 h3
    go_enter Try.func59, Try.ntmps59
    go_wp2_with (go_at_call 57; (with_reducible refine (PR.out _).mono ?_); rintro e w' ⟨rfl, rfl⟩)
    go_ret
    exact ⟨rfl, (Below.refl _ _).alloc (Nat.le_refl _) _⟩
theorem right_no7 (x : Jn) (l : Value) (w : World) (h : ¬ PArg x.ent x.per x.kind x.of) : Calls Try.prog 59 #[ja x l] w fun e w' => e = .returned (.bool false) ∧ Below w.heap.size w w' := by
  obtain ⟨s, ent, p, kd, of, n, ga, gm⟩ := x
  simp only [ja] at *
  by_cases h1 : ent = ⟨#[]⟩
  · subst h1
    clear h
    go_enter Try.func59, Try.ntmps59
    go_wp2
    go_ret
    exact ⟨rfl, (Below.refl _ _).alloc (Nat.le_refl _) _⟩
  obtain ⟨q1, q1'⟩ := ent_some h1
  by_cases h2 : 0 ≤ p ∧ p ≤ 399
  · have PR := Lib.hid fun w => pright_yes p w h2.1 h2.2
    have h3 : ¬ (kd = 2 ∨ (kd = 1 ∧ of = 0)) := fun q => h ⟨h1, h2.1, h2.2, q⟩
    have q2 : (kd == 2) = false := by simpa using fun q => h3 (.inl q)
    by_cases h4 : kd = 1
    · subst h4
      have q4 : (of == 0) = false := by simpa using fun q => h3 (.inr ⟨rfl, q⟩)
      clear h h1 h2 h3 q2
      go_enter Try.func59, Try.ntmps59
      go_wp2_with (go_at_call 57; (with_reducible refine (PR.out _).mono ?_); rintro e w' ⟨rfl, rfl⟩)
      go_ret
      exact ⟨rfl, (Below.refl _ _).alloc (Nat.le_refl _) _⟩
    · have q3 : (kd == 1) = false := by simpa using h4
      clear h h1 h2 h3 h4
      go_enter Try.func59, Try.ntmps59
      go_wp2_with (go_at_call 57; (with_reducible refine (PR.out _).mono ?_); rintro e w' ⟨rfl, rfl⟩)
      go_ret
      exact ⟨rfl, (Below.refl _ _).alloc (Nat.le_refl _) _⟩
  · have PR := Lib.hid fun w => pright_no p w (by omega)
    clear h h1 h2
    go_enter Try.func59, Try.ntmps59
    go_wp2_with (go_at_call 57; (with_reducible refine (PR.out _).mono ?_); rintro e w' ⟨rfl, rfl⟩)
    go_ret
    exact ⟨rfl, (Below.refl _ _).alloc (Nat.le_refl _) _⟩
set_option maxHeartbeats 4000000 in
set_option maxRecDepth 100000 in
theorem rev_none (s : StV w O base t sb v L n js) (x : Jn) (l : Value) (h : ¬ ∃ k : Nat, x.of = (k : Int) + 1 ∧ PIs js n x.ent x.per k) :
    Calls Try.prog 60 #[ptr sb, ja x l] w fun e w' => e = .returned (.int .i64 3) ∧ Below w.heap.size w w' := by
  obtain ⟨s0, ent, p, kd, of, m, ga, gm⟩ := x
  simp only [ja] at *
  by_cases hk : of < 1 ∨ (n : Int) < of
  · have HF := Lib.hid fun w' hb => find_no (StV.below s (w1 := w') hb) of hk
    clear s h hk
    go_enter Try.func60, Try.ntmps60
    go_wp2_with fail
    refine (HF.out _ ((Below.refl _ _).alloc (Nat.le_refl _) _)).mono ?_
    rintro e w3 ⟨rfl, hb3⟩
    obtain ⟨hc, _, hz, hb⟩ := one_cells hb3
    have HB3 := Lib.hid hb
    clear hc hb hb3
    go_wp2
    go_ret
    exact ⟨rfl, HB3.out.alloc HB3.out.size _⟩
  · obtain ⟨k, rfl⟩ : ∃ k : Nat, of = (k : Int) + 1 := ⟨(of - 1).toNat, by omega⟩
    have hkn : k < n := by omega
    have HF := Lib.hid fun w' hb => find_yes (StV.below s (w1 := w') hb) k hkn
    have hP : ¬ ((js k).ent = ent ∧ (js k).per = p ∧ (js k).kind ≠ 2) := fun q => h ⟨k, rfl, hkn, q⟩
    obtain ⟨⟨Ak, ck, hL, _, _, _, _⟩, _⟩ := s.lines k hkn
    rw [hL] at HF
    clear s h hk hL
    have hway : (((js k).ent.toList == ent.toList) = false) ∨ (((js k).ent.toList == ent.toList) = true ∧ ((js k).per != p) = true) ∨ (((js k).ent.toList == ent.toList) = true ∧ ((js k).per != p) = false ∧ ((js k).kind == 2) = true) := by
      by_cases p1 : (js k).ent = ent
      · by_cases p2 : (js k).per = p
        · exact .inr (.inr ⟨(bytes_is _ _).2 p1, by simpa using p2, by simpa using Classical.byContradiction fun q => hP ⟨p1, p2, q⟩⟩)
        · exact .inr (.inl ⟨(bytes_is _ _).2 p1, by simpa using p2⟩)
      · exact .inl (bytes_not p1)
    clear hP hkn
    rcases hway with q1 | ⟨q1, q2⟩ | ⟨q1, q2, q3⟩
    all_goals
      go_enter Try.func60, Try.ntmps60
      go_wp2_with fail
      refine (HF.out _ ((Below.refl _ _).alloc (Nat.le_refl _) _)).mono ?_
      rintro e w3 ⟨rfl, hb3⟩
      obtain ⟨hc, _, hz, hb⟩ := one_cells hb3
      have HB3 := Lib.hid hb
      have r1 : w3.cell? ⟨w.heap.size, 1, none⟩ = some (.string ent) := hc 1
      have r2 : w3.cell? ⟨w.heap.size, 2, none⟩ = some (.int .i64 p) := hc 2
      have r4 : w3.cell? ⟨w.heap.size, 4, none⟩ = some (.int .i64 ((k : Int) + 1)) := hc 4
      clear hc hb hb3
      go_wp2
      go_ret
      exact ⟨rfl, HB3.out.alloc HB3.out.size _⟩
set_option maxHeartbeats 4000000 in
set_option maxRecDepth 100000 in
/-- was it reversed already? i: by the first one that is of it -/
theorem rev_loop (s : StV w O base t sb v L n js) (x : Jn) (l : Value) (k i : Nat) (hx : x.of = (k : Int) + 1) (h : PIs js n x.ent x.per k) (hi : i ≤ n) (h0 : ∀ j, j < i → (js j).of ≠ x.of) (h1 : i < n → (js i).of = x.of) :
    Calls Try.prog 60 #[ptr sb, ja x l] w fun e w' => e = .returned (.int .i64 (if i < n then 4 else 0)) ∧ Below w.heap.size w w' := by
  obtain ⟨s0, ent, p, kd, of, m, ga, gm⟩ := x
  obtain ⟨hkn, rfl, rfl, hk2⟩ := h
  simp only [ja] at *
  have hn := s.inv.1
  have HF := Lib.hid fun w' hb => find_yes (StV.below s (w1 := w') hb) k hkn
  obtain ⟨A, c, rfl, _, _, _⟩ := s.own.form
  obtain ⟨⟨Ak, ck, hL, _, _, _, _⟩, _⟩ := s.lines k hkn
  rw [hL] at HF
  have hsb := s.lt
  have HS := Lib.hid s
  have H0 := Lib.hid h0
  have H1 := Lib.hid h1
  have q1 := (bytes_is (js k).ent (js k).ent).2 rfl
  have q2 : ((js k).per != (js k).per) = false := by simp
  have q3 : ((js k).kind == 2) = false := by simpa using hk2
  subst hx
  clear s h0 h1 hL hk2
  go_enter Try.func60, Try.ntmps60
  go_wp2_with fail
  refine (HF.out _ ((Below.refl _ _).alloc (Nat.le_refl _) _)).mono ?_
  rintro e w3 ⟨rfl, hb3⟩
  obtain ⟨hc, _, hz, hb⟩ := one_cells hb3
  have HB3 := Lib.hid hb
  have r1 : w3.cell? ⟨w.heap.size, 1, none⟩ = some (.string (js k).ent) := hc 1
  have r2 : w3.cell? ⟨w.heap.size, 2, none⟩ = some (.int .i64 (js k).per) := hc 2
  have r4 : w3.cell? ⟨w.heap.size, 4, none⟩ = some (.int .i64 ((k : Int) + 1)) := hc 4
  have HR4 := Lib.hid r4
  have S3 := HS.out.below hb
  have sc := S3.cell
  have hsb3 := S3.lt
  clear hc hb hb3 S3
  go_wp2
  go_loopg [42] n (fun gh s wr => ∃ j : Nat, j ≤ i ∧ gh = n - j ∧ s = .int .i64 j ∧ Below w3.heap.size w3 wr)
  case atStart => exact ⟨0, Nat.zero_le _, by omega, rfl, (Below.refl _ _).alloc (Nat.le_refl _) _⟩
  case round =>
    obtain ⟨j, hj, hgj, rfl, hbj⟩ := hrel
    have HGJ := Lib.hid hgj
    have HBJ := Lib.hid hbj
    have d4 : wr.cell? ⟨w.heap.size, 4, none⟩ = some (.int .i64 ((k : Int) + 1)) := (hbj.cell (p := ⟨w.heap.size, 4, none⟩) hz).trans HR4.out
    have hz' : w.heap.size < wr.heap.size := Nat.lt_of_lt_of_le hz hbj.size
    have HBW := Lib.hid (HB3.out.trans (hbj.mono HB3.out.size))
    clear hgj hbj
    by_cases hlt : j < n
    · obtain ⟨b, rfl, hb, h5⟩ := HS.out.at j hlt
      obtain ⟨c0, c1, c2, c3, c4, c5⟩ := h5.below hb HBW.out
      obtain ⟨⟨Aj, cj, hLj, _, _, _, _⟩, _⟩ := HS.out.lines j hlt
      rw [hLj] at c5
      clear h5 hLj
      by_cases hji : j < i
      · have e4 : ((js j).of == (k : Int) + 1) = false := by simpa using H0.out j hji
        go_wp2
        go_roundg (n - (j + 1))
        case measure => have := HGJ.out; omega
        case rel => exact ⟨j + 1, by omega, rfl, by go_num, HBJ.out.alloc HBJ.out.size _⟩
      · obtain rfl : j = i := by omega
        have e4 : ((js j).of == (k : Int) + 1) = true := by simpa using H1.out hlt
        have HI : Hid (j < n) := Lib.hid hlt
        go_wp2
        go_ret
        exact ⟨ret_i (by first | rfl | exact (if_pos HI.out).symm), HBW.out.alloc HBW.out.size _⟩
    · have HI : Hid (¬ i < n) := Lib.hid (by omega)
      obtain rfl : j = n := by omega
      clear hlt
      go_wp2
      go_ret
      exact ⟨ret_i (by first | rfl | exact (if_neg HI.out).symm), HBW.out⟩
theorem rev_there (s : StV w O base t sb v L n js) (x : Jn) (l : Value) (k : Nat) (hx : x.of = (k : Int) + 1) (h : PIs js n x.ent x.per k) (ht : PThere js n x.of) :
    Calls Try.prog 60 #[ptr sb, ja x l] w fun e w' => e = .returned (.int .i64 4) ∧ Below w.heap.size w w' := by
  obtain ⟨i, a, b, d⟩ := first_bad (P := fun j => (js j).of ≠ x.of) (n := n) fun q => by obtain ⟨j, hj, e⟩ := ht; exact q j hj e
  have := rev_loop s x l k i hx h (by omega) b fun _ => Classical.byContradiction d
  rwa [if_pos a] at this
theorem rev_ok (s : StV w O base t sb v L n js) (x : Jn) (l : Value) (k : Nat) (hx : x.of = (k : Int) + 1) (h : PIs js n x.ent x.per k) (ht : ¬ PThere js n x.of) :
    Calls Try.prog 60 #[ptr sb, ja x l] w fun e w' => e = .returned (.int .i64 0) ∧ Below w.heap.size w w' := by
  have := rev_loop s x l k n hx h (Nat.le_refl _) (fun j hj e => ht ⟨j, hj, e⟩) fun q => by omega
  rwa [if_neg (by omega)] at this
set_option maxHeartbeats 4000000 in
set_option maxRecDepth 100000 in
theorem undoes_any (s : StV w O base t sb v L n js) (x : Jn) (l : Value) (k : Nat) (hl : SomeL l w x.n x.ga x.gm) (hln : x.n ≤ 1000000) (hx : x.of = (k : Int) + 1) (hkn : k < n) (q : Bool) (hq : q = true ↔ PUndo (js k) x.n x.ga x.gm) :
    Calls Try.prog 62 #[ptr sb, ja x l] w fun e w' => e = .returned (.bool q) ∧ Below w.heap.size w w' := by
  obtain ⟨s0, ent, p, kd, of, m, ga, gm⟩ := x
  obtain ⟨A, c, rfl, _, _, hN, hA⟩ := hl
  simp only [ja] at *
  subst hx
  have HF := Lib.hid fun w' hb => find_yes (StV.below s (w1 := w') hb) k hkn
  obtain ⟨⟨Ak, ck, hL, _, _, _, hAk⟩, _⟩ := s.lines k hkn
  rw [hL] at HF
  have gd := (s.inv.2.1 k hkn).1
  have HA := Lib.hid hA
  have HK := Lib.hid hAk
  have hkm : (js k).n ≤ 20 := gd.1
  have HE : Hid (∀ j, j < (js k).n → wrap64 (-(js k).gm j) = -(js k).gm j) := Lib.hid fun j hj => wrap_mon (gd.2.1 j hj).2.2.2
  have HQ := Lib.hid hq
  clear s hL gd hA hAk hq hN
  go_enter Try.func62, Try.ntmps62
  go_wp2_with fail
  refine (HF.out _ ((Below.refl _ _).alloc (Nat.le_refl _) _)).mono ?_
  rintro e w3 ⟨rfl, hb3⟩
  obtain ⟨hc, _, hz, hb⟩ := one_cells hb3
  have HB3 := Lib.hid hb
  have r5 : w3.cell? ⟨w.heap.size, 5, none⟩ = some (.slice A m c) := hc 5
  clear hc hb hb3
  go_wp2
  obtain ⟨w4, hw4⟩ : ∃ w4, w3.alloc (.cells #[.int .i64 (js k).seq, .string (js k).ent, .int .i64 (js k).per, .int .i64 (js k).kind, .int .i64 (js k).of, .slice Ak (js k).n ck] 44) = w4 := ⟨_, rfl⟩
  rw [hw4]
  have hb43 : Below w3.heap.size w3 w4 := by rw [← hw4]; exact (Below.refl _ _).alloc (Nat.le_refl _) _
  have d1 : w4.cell? ⟨w.heap.size, 5, none⟩ = some (.slice A m c) := (hb43.cell (p := ⟨w.heap.size, 5, none⟩) hz).trans r5
  have d2 : w4.cell? ⟨w3.heap.size, 5, none⟩ = some (.slice Ak (js k).n ck) := by rw [← hw4]; simp
  have hb4 : Below w.heap.size w w4 := by rw [← hw4]; exact HB3.out.alloc HB3.out.size _
  have HB4 := Lib.hid hb4
  have hdr := (keep_drew d1 d2).2.2
  replace HA := Lib.hid (HA.out.below hb4)
  replace HK := Lib.hid (HK.out.below hb4)
  clear hb4 hw4 r5 hb43
  have hu : PUndo (js k) m ga gm ↔ SameL m (js k).n ga gm (js k).ga (fun j => wrap64 (-(js k).gm j)) := by
    constructor
    · rintro ⟨e, h⟩
      exact ⟨e, fun j hj => ⟨(h j hj).1, by rw [(h j hj).2]; exact (HE.out j (by show j < (js k).n; omega)).symm⟩⟩
    · rintro ⟨e, h⟩
      exact ⟨e, fun j hj => ⟨(h j hj).1, by rw [(h j hj).2]; exact HE.out j (by omega)⟩⟩
  have HU := Lib.hid hu
  clear hu
  by_cases hs : SameL m (js k).n ga gm (js k).ga (fun j => wrap64 (-(js k).gm j))
  · have HS := Lib.hid hs
    clear hs
    go_region_held3 (fun w' => w'.cell? ⟨w.heap.size, 5, none⟩ = some (.slice A m c) ∧ w'.cell? ⟨w3.heap.size, 5, none⟩ = some (.slice Ak (js k).n ck) ∧ Below w4.heap.size w4 w') (first | go_keep) (first | (go_at_call 30; (with_reducible refine (jrev_any _ _ _ (js k).ga (js k).gm _ (HK.out.below hdr) (by omega)).mono ?_); rintro e w5 ⟨v5, rfl, ho5, hb5⟩; obtain ⟨A5, c5, rfl, _, _, _, hat5⟩ := ho5.cut; have HAT5 := Lib.hid hat5; obtain ⟨k1, k2, k3⟩ := keep_call (p := ⟨w.heap.size, 5, none⟩) (r := ⟨w3.heap.size, 5, none⟩) (w1 := w4) (keep_drew d1 d2).1 (keep_drew d1 d2).2.1 hdr hb5; clear ho5 hat5 hb5) | (go_at_call 72; (with_reducible refine (eql_yes _ _ _ _ _ _ ga gm _ _ _ (HA.out.below k3) HAT5.out (by omega) HS).mono ?_); rintro e w6 ⟨rfl, hb6⟩; obtain ⟨l1, l2, l3⟩ := keep_call (p := ⟨w.heap.size, 5, none⟩) (r := ⟨w3.heap.size, 5, none⟩) (w1 := w4) k1 k2 k3 hb6; clear hb6))
    have HB6 := Lib.hid (HB4.out.trans (l3.mono HB4.out.size))
    go_wp2
    go_ret
    exact ⟨ret_b (HQ.out.2 (HU.out.2 HS.out)).symm, HB6.out⟩
  · have HS := Lib.hid hs
    clear hs
    have HF0 : Hid (false = q) := Lib.hid (by
      cases q
      · rfl
      · exact absurd (HU.out.1 (HQ.out.1 rfl)) HS.out)
    go_region_held3 (fun w' => w'.cell? ⟨w.heap.size, 5, none⟩ = some (.slice A m c) ∧ w'.cell? ⟨w3.heap.size, 5, none⟩ = some (.slice Ak (js k).n ck) ∧ Below w4.heap.size w4 w') (first | go_keep) (first | (go_at_call 30; (with_reducible refine (jrev_any _ _ _ (js k).ga (js k).gm _ (HK.out.below hdr) (by omega)).mono ?_); rintro e w5 ⟨v5, rfl, ho5, hb5⟩; obtain ⟨A5, c5, rfl, _, _, _, hat5⟩ := ho5.cut; have HAT5 := Lib.hid hat5; obtain ⟨k1, k2, k3⟩ := keep_call (p := ⟨w.heap.size, 5, none⟩) (r := ⟨w3.heap.size, 5, none⟩) (w1 := w4) (keep_drew d1 d2).1 (keep_drew d1 d2).2.1 hdr hb5; clear ho5 hat5 hb5) | (go_at_call 72; (with_reducible refine (eql_no _ _ _ _ _ _ ga gm _ _ _ (HA.out.below k3) HAT5.out (by omega) HS).mono ?_); rintro e w6 ⟨rfl, hb6⟩; obtain ⟨l1, l2, l3⟩ := keep_call (p := ⟨w.heap.size, 5, none⟩) (r := ⟨w3.heap.size, 5, none⟩) (w1 := w4) k1 k2 k3 hb6; clear hb6))
    have HB6 := Lib.hid (HB4.out.trans (l3.mono HB4.out.size))
    go_wp2
    go_ret
    exact ⟨ret_b HF0.out, HB6.out⟩
end
end Go.Proofs.Ytpbpflhoeidpnaa
