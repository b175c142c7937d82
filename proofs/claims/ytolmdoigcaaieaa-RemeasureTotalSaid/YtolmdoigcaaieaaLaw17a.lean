/- Law 17: registers of numbers; rates of numbers; ways that are told outright; the document's example. -/
import Derived.Test.YtolmdoigcaaieaaRm
import Derived.Test.YtolmdoigcaaieaaLaw16a
import Derived.Test.YtolmdoigcaaieaaRoOne
import Derived.Test.YtolmdoigcaaieaaRoFew
import Derived.Test.YtolmdoigcaaieaaM1
namespace Go.Proofs.Ytolmdoigcaaieaa
open Go.RowKit

theorem own_at3 {w : World} {base n c : Nat} {A : Option Addr} {g : Nat → Bk} (o : OwnR be 3 w 26 base (.slice A n c) n g) : AtR be 3 w A n g := by
  obtain ⟨_, _, e, _, _, _, h⟩ := o.at be_len
  injection e with e1 _ e3
  subst e1 e3
  exact h
theorem own_atI {w : World} {base n c : Nat} {A : Option Addr} {g : Nat → Int} (o : Own w 3 base (.slice A n c) n g) : At w A n g := by
  obtain ⟨_, _, e, _, _, h⟩ := o.at
  injection e with e1 _ e3
  subst e1 e3
  exact h
/-- a register of numbers, its rows -/
theorem preg_own (A : Option Addr) (n c : Nat) (zs : List Int) (w : World) (h : IsRow .i64 w A n c zs) :
    Calls Try.prog 12 #[.slice A n c] w fun e w' => ∃ sb A' c' m g S, e = .returned (ptr sb) ∧ w'.cell? ⟨sb, 0, none⟩ = some (.slice A' m c') ∧ (m ≤ c' ∧ c' ≤ maxLen) ∧ BInv S m g ∧ OwnR be 3 w' 26 w.heap.size (.slice A' m c') m g ∧ Below w.heap.size w w' := by
  refine (preg_some A n c zs w h).mono ?_
  rintro e w' ⟨sb, S, O, rfl, nb⟩
  obtain ⟨v, m, g, s, iv⟩ := nb.st
  obtain ⟨A', c', rfl, h1, h2, _⟩ := s.own.form
  exact ⟨sb, A', c', m, g, S, rfl, s.hd.c0, ⟨h1, h2⟩, iv, s.own, nb.low⟩
set_option maxHeartbeats 4000000 in
set_option maxRecDepth 100000 in
/-- rates of numbers -/
theorem lrates (A : Option Addr) (n0 c : Nat) (zs : List Int) (n : Nat) (w : World) (h : IsRow .i64 w A n0 c zs) (hn : n ≤ 1000) :
    Calls Try.prog 14 #[.slice A n0 c, .int .i64 n] w fun e w' => ∃ v r, e = .returned v ∧ Own w' 3 w.heap.size v n r ∧ Below w.heap.size w w' := by
  obtain ⟨i0, hi, hz0, hz1, hz2⟩ := info_parts int_info
  have HR := Lib.hid h.at.1
  obtain ⟨f, hf⟩ : ∃ f : Nat → Int, (fun j => zs.getD j 0) = f := ⟨_, rfl⟩
  rw [hf] at HR
  clear h hf
  go_enter Try.func14, Try.ntmps14
  go_wp2
  go_loopg [5, 6] n (fun gh s5 s6 wr => ∃ (k : Nat) (r : Nat → Int), k ≤ n ∧ gh = n - k ∧ s6 = .int .i64 k ∧ Own wr 3 w.heap.size s5 k r ∧ Below w.heap.size w wr)
  case atStart => exact ⟨0, fun _ => 0, Nat.zero_le _, rfl, rfl, Own.nil _ _ _ _, Below.refl _ _⟩
  case round =>
    obtain ⟨k, r, hk, hgk, rfl, ho, hb⟩ := hrel
    have HGK := Lib.hid hgk
    have HO := Lib.hid ho
    have HB := Lib.hid hb
    clear hgk ho hb
    by_cases hlt : k < n
    · by_cases h0 : k < n0
      · obtain ⟨b, off, rfl, hb, hc⟩ := (HR.out.below HB.out).some (by omega)
        have c0 := hc k h0
        have k0 : (0 : Int) ≤ (k : Int) := by omega
        have k1 : (k : Int) < (n0 : Int) := by omega
        clear hc
        go_wp2_with fail
        refine (rate_some _ _).mono ?_
        rintro e w5 ⟨x, rfl, hb5⟩
        have HO5 := Lib.hid (HO.out.below hb5)
        have HB5 := Lib.hid (HB.out.trans (hb5.mono HB.out.size))
        clear hb5 c0 hb
        go_wp2_with (at_builtin; (refine wpList_push_int rfl (.tmp 23) (.tmp 26) rfl Try.underlying22 hi hz0 hz1 hz2 w w.heap.size k w5.heap.size _ r x rfl rfl (by simp) (HO5.out.alloc _) (by omega) (HB5.out.alloc HB5.out.size _) (by have := HB5.out.size; simp; omega) _ rfl ?_; intro b2 c3 w6 ho2 hb2 hg2 hat2; have HO2 := Lib.hid ho2; have HW2 := Lib.hid hb2; clear ho2 hb2 hg2 hat2))
        go_roundg (n - (k + 1))
        case measure => have := HGK.out; omega
        case rel => exact ⟨k + 1, _, by omega, rfl, by go_num, HO2.out, HW2.out⟩
      · have kf : ¬ (k : Int) < (n0 : Int) := by omega
        go_wp2_with fail
        refine (rate_some _ _).mono ?_
        rintro e w5 ⟨x, rfl, hb5⟩
        have HO5 := Lib.hid (HO.out.below hb5)
        have HB5 := Lib.hid (HB.out.trans (hb5.mono HB.out.size))
        clear hb5
        go_wp2_with (at_builtin; (refine wpList_push_int rfl (.tmp 23) (.tmp 26) rfl Try.underlying22 hi hz0 hz1 hz2 w w.heap.size k w5.heap.size _ r x rfl rfl (by simp) (HO5.out.alloc _) (by omega) (HB5.out.alloc HB5.out.size _) (by have := HB5.out.size; simp; omega) _ rfl ?_; intro b2 c3 w6 ho2 hb2 hg2 hat2; have HO2 := Lib.hid ho2; have HW2 := Lib.hid hb2; clear ho2 hb2 hg2 hat2))
        go_roundg (n - (k + 1))
        case measure => have := HGK.out; omega
        case rel => exact ⟨k + 1, _, by omega, rfl, by go_num, HO2.out, HW2.out⟩
    · obtain rfl : k = n := by omega
      clear hlt
      go_wp2
      go_ret
      exact ⟨_, r, rfl, HO.out, HB.out⟩
set_option maxHeartbeats 4000000 in
set_option maxRecDepth 100000 in
theorem wakes17_any (w : World) : Calls Try.prog 11 #[] w fun e w' => e = .returned (.bool true) ∧ Below w.heap.size w w' := by
  have ok : BOk 1 5 := by unfold BOk; omega
  have i1 := one_inv (a := 100) ok (by decide) (by unfold Mon; omega)
  have RB := rec_lit w (be ⟨1, 5, 100⟩) 26 w.heap.size rfl
  have kb := (Below.refl w.heap.size w).alloc (Nat.le_refl _) (.cells #[.int .i64 1, .int .i64 5, .int .i64 100] 26)
  obtain ⟨w1, hw1⟩ : ∃ w1, w.alloc (.cells #[.int .i64 1, .int .i64 5, .int .i64 100] 26) = w1 := ⟨_, rfl⟩
  have a1 : AtR be 3 w1 (some ⟨w.heap.size, 0, none⟩) 1 (fun _ => ⟨1, 5, 100⟩) := at_one (fun j u hu => by rw [← hw1]; exact RB j u hu) (by rw [← hw1]; simp)
  have z1 : w1.heap.size = w.heap.size + 1 := by rw [← hw1]; simp
  rw [hw1] at kb
  have L2 := lit_row' w1 [250000] 3 (w.heap.size + 1) z1
  have L3 := lit_row' (w1.alloc (.cells #[.int .i64 250000] 3)) [300000] 3 (w.heap.size + 2) (by simp; omega)
  have k2 := (Below.refl w1.heap.size w1).alloc (Nat.le_refl _) (.cells #[.int .i64 250000] 3)
  have k3 := k2.alloc k2.size (.cells #[.int .i64 300000] 3)
  have fw := (fis_still i1.is).fiw i1.mon i1.mon
  have H : RmIs 1 (fun j => ⟨1, 5, 100, 0, 100⟩) 1 (fun j => [250000].getD j 0) 1 (fun j => [300000].getD j 0) 0 5 0 := .inr (.inr ⟨⟨rfl, rfl, fun i hi => by
    obtain rfl : i = 0 := by omega
    exact ⟨⟨by unfold RtOk; decide, by unfold RtOk; decide⟩, by unfold Mon; decide, by unfold Mon; decide⟩⟩, ⟨by unfold Mon; decide, by unfold Mon; decide⟩, by decide, by decide, rfl⟩)
  have C := Lib.hid (prem_any (c := 1) (c' := 1) (cu := 1) (cv := 1) (a1.below k3) (a1.below k3) i1.is i1.is (by omega) (by omega) (by unfold maxLen; omega) (by unfold maxLen; omega) (L2.below ((Below.refl _ _).alloc (Nat.le_refl _) _)).at L3.at (by unfold maxLen; simp) (by unfold maxLen; simp) fw H)
  have K := Lib.hid (kb.trans (k3.mono kb.size))
  have W1 := Lib.hid hw1
  clear RB kb a1 L2 L3 k2 k3 fw H i1 hw1 z1
  go_enter Try.func11, Try.ntmps11
  go_wp2_with fail
  rw [W1.out]
  refine (C.out).mono ?_
  rintro e w2 ⟨rfl, hb⟩
  have K1 := Lib.hid (K.out.trans (hb.mono K.out.size))
  clear hb C
  go_wp2
  go_ret
  exact ⟨rfl, K1.out.alloc K1.out.size _⟩
end Go.Proofs.Ytolmdoigcaaieaa
