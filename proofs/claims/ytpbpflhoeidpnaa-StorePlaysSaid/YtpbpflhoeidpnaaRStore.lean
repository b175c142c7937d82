/- The document's own store: all, Trial, Balance: a contract for each. -/
import Derived.Test.YtpbpflhoeidpnaaStore6
import Derived.Test.YtpbpflhoeidpnaaJRef2
import Derived.Test.YtpbpflhoeidpnaaCutL
import Derived.Test.YtpbpflhoeidpnaaRefP
import Derived.WalkKit
import Derived.WalkSpells
import Derived.WalkLawsBesides
import Derived.Lib.Hide
import Derived.Deep.LoopGhost
namespace Go.Proofs.Ytpbpflhoeidpnaa
open Go.RowKit

/-- rows of lines as of k journals: each account's sum is the balance -/
def AllOf (js : Nat → Jn) (k : Nat) (ent : ByteArray) (u : Int) (N : Nat) (fa fm : Nat → Int) : Prop :=
  N ≤ 20 * k ∧ (∀ j, j < N → Mon (fm j)) ∧ ∀ a, sm a fa fm N = bal js k ent a u
theorem AllOf.nil (js : Nat → Jn) (ent : ByteArray) (u : Int) : AllOf js 0 ent u 0 (fun _ => 0) (fun _ => 0) := ⟨by omega, fun j hj => by omega, fun a => rfl⟩
theorem AllOf.yes {js : Nat → Jn} {k : Nat} {ent : ByteArray} {u : Int} {N : Nat} {fa fm : Nat → Int} (h : AllOf js k ent u N fa fm) (g : JGood (js k)) (e : (js k).ent = ent ∧ (js k).per ≤ u) :
    AllOf js (k + 1) ent u (N + (js k).n) (cat N fa (js k).ga) (cat N fm (js k).gm) := by
  obtain ⟨h1, h2, h3⟩ := h
  have := g.1.1
  refine ⟨by omega, fun j hj => ?_, fun a => by rw [sm_cat, h3, bal_yes e]⟩
  by_cases q : j < N
  · rw [cat_lt q]; exact h2 j q
  · rw [cat_ge (by omega)]; exact (g.1.2.1 _ (by omega)).2.2.2
theorem AllOf.no {js : Nat → Jn} {k : Nat} {ent : ByteArray} {u : Int} {N : Nat} {fa fm : Nat → Int} (h : AllOf js k ent u N fa fm) (e : ¬ ((js k).ent = ent ∧ (js k).per ≤ u)) : AllOf js (k + 1) ent u N fa fm :=
  ⟨by have := h.1; omega, h.2.1, fun a => by rw [h.2.2, bal_no e]⟩
section
variable {w : World} {O : Nat → Nat} {base t sb n : Nat} {v : Value} {L : Nat → Value} {js : Nat → Jn}
set_option maxHeartbeats 4000000 in
set_option maxRecDepth 100000 in
theorem rall_any (s : StV w O base t sb v L n js) (ent : ByteArray) (u : Int) :
    Calls Try.prog 55 #[ptr sb, .string ent, .int .i64 u] w fun e w' => ∃ v N fa fm, e = .returned v ∧ AllOf js n ent u N fa fm ∧ OwnL w' 26 w.heap.size v N fa fm ∧ Below w.heap.size w w' := by
  obtain ⟨i0, hi, hz0, hz1, hz2⟩ := info_parts line_info
  have hn := s.inv.1
  have sc := s.cell
  obtain ⟨A, c, rfl, h1, h2, h3⟩ := s.own.form
  have HS := Lib.hid s
  clear s h3
  go_enter Try.func55, Try.ntmps55
  go_wp2
  go_loopg [7, 15] n (fun gh v i wr => ∃ (k N : Nat) (fa fm : Nat → Int), k ≤ n ∧ gh = n - k ∧ i = .int .i64 k ∧ AllOf js k ent u N fa fm ∧ OwnL wr 26 w.heap.size v N fa fm ∧ Below w.heap.size w wr)
  case atStart => exact ⟨0, 0, fun _ => 0, fun _ => 0, Nat.zero_le _, by omega, rfl, AllOf.nil _ _ _, OwnL.nil _ _ _ _ _, Below.refl _ _⟩
  case round =>
    obtain ⟨k, N, fa, fm, hk, hgk, rfl, hal, ho, hbw⟩ := hrel
    have HGK := Lib.hid hgk
    have HB := Lib.hid hbw
    have hN := hal.1
    obtain ⟨A1, c1', rfl, oc, ocm, _⟩ := ho.form
    have HAL := Lib.hid hal
    have HO := Lib.hid ho
    clear hgk hbw hal ho
    by_cases hlt : k < n
    · obtain ⟨b, rfl, hb, h5⟩ := HS.out.at k hlt
      obtain ⟨c0, c1, c2, c3, c4, c5⟩ := h5.below hb HB.out
      obtain ⟨⟨Ak, ck, hL, k1, k2, k3, k4⟩, _⟩ := HS.out.lines k hlt
      have gd := HS.out.inv.2.1 k hlt
      have hm := gd.1.1
      have GD := Lib.hid gd
      rw [hL] at c5
      have HA := Lib.hid (k4.below HB.out)
      have HN := Lib.hid k3
      clear h5 gd hL k3 k4
      by_cases hq : (js k).ent = ent
      · have q1 := (bytes_is _ _).2 hq
        by_cases hp : (js k).per ≤ u
        · have HY := Lib.hid (HAL.out.yes GD.out ⟨hq, hp⟩)
          clear hq
          go_wp2_with (at_builtin; (refine wpList_app_l rfl (.tmp 29) (.tmp 31) rfl line_type hi hz0 hz1 hz2 w w.heap.size N (js k).n ck _ Ak fa fm (js k).ga (js k).gm rfl rfl (HO.out.alloc _) (HA.out.below ((Below.refl _ _).alloc (Nat.le_refl _) _)) HN.out (by omega) (by omega) (HB.out.alloc HB.out.size _) (by have := HB.out.size; simp; omega) ?_; intro v' w' ho' hb' hg'; have HO' := Lib.hid ho'; have HB' := Lib.hid hb'; clear ho' hb' hg'))
          go_roundg (n - (k + 1))
          case measure => have := HGK.out; omega
          case rel => exact ⟨k + 1, _, _, _, by omega, rfl, by go_num, HY.out, HO'.out, HB'.out⟩
        · have hp1 : decide ((js k).per ≤ u) = false := by simpa using hp
          have HY := Lib.hid (HAL.out.no fun q => hp q.2)
          clear hq hp
          go_wp2
          go_roundg (n - (k + 1))
          case measure => have := HGK.out; omega
          case rel => exact ⟨k + 1, _, _, _, by omega, rfl, by go_num, HY.out, HO.out.alloc _, HB.out.alloc HB.out.size _⟩
      · have q1 := bytes_not hq
        have HY := Lib.hid (HAL.out.no fun q => hq q.1)
        clear hq
        go_wp2
        go_roundg (n - (k + 1))
        case measure => have := HGK.out; omega
        case rel => exact ⟨k + 1, _, _, _, by omega, rfl, by go_num, HY.out, HO.out.alloc _, HB.out.alloc HB.out.size _⟩
    · obtain rfl : k = n := by omega
      clear hlt
      go_wp2
      go_ret
      exact ⟨_, _, _, _, rfl, HAL.out, HO.out, HB.out⟩
theorem rtrial_any (s : StV w O base t sb v L n js) (hn : n ≤ 40) (ent : ByteArray) (u : Int) (S : Int → Int) (hS : ∀ a, bal js n ent a u = S a) :
    Calls Try.prog 27 #[ptr sb, .string ent, .int .i64 u] w fun e w' => ∃ v, e = .returned v ∧ OwnL w' 26 w.heap.size v (mc S 7) (ma S 7) (mm S 7) ∧ Below w.heap.size w w' := by
  have RA := Lib.hid (rall_any s ent u)
  have HS := Lib.hid hS
  clear s hS
  go_enter Try.func27, Try.ntmps27
  go_wp2_with fail
  refine (RA.out).mono ?_
  rintro e w1 ⟨v1, N, fa, fm, rfl, hal, ho, hb⟩
  obtain ⟨A1, c1, rfl, _, _, _, hat⟩ := ho.cut
  have e1 : smf fa fm N = S := funext fun a => (hal.2.2 a).trans (HS.out a)
  have RM := Lib.hid (rmergel A1 N c1 fa fm w1 hat (by have := hal.1; omega) (Lib.hid hal.2.1))
  rw [e1] at RM
  have HB := Lib.hid hb
  clear hal ho hat hb e1
  go_wp2_with fail
  refine (RM.out).mono ?_
  rintro e w2 ⟨v2, rfl, ho2, hb2⟩
  have HO2 := Lib.hid (ho2.mono HB.out.size)
  have HB2 := Lib.hid (HB.out.trans (hb2.mono HB.out.size))
  clear ho2 hb2
  go_wp2
  go_ret
  exact ⟨_, rfl, HO2.out, HB2.out⟩
/-- where in a merged row an account stands -/
theorem mc_find (S : Int → Int) (a : Int) : ∀ k : Nat, (1 ≤ a ∧ a ≤ k ∧ S a ≠ 0) → ∃ i, i < mc S k ∧ ma S k i = a ∧ ∀ j, j < i → ma S k j ≠ a
  | 0, h => by omega
  | k + 1, h => by
    have ub : ∀ j, j < mc S k → ma S k j ≤ k := fun j hj => (ma_spec S k j hj).2.1
    by_cases e : a = (k : Int) + 1
    · subst e
      refine ⟨mc S k, ?_, ?_, fun j hj => ?_⟩
      · rw [(mc_some h.2.2).1]; omega
      · rw [ma_at h.2.2, if_pos rfl]
      · rw [ma_at h.2.2, if_neg (by omega)]; have := ub j hj; omega
    · obtain ⟨i, h1, h2, h3⟩ := mc_find S a k ⟨h.1, by omega, h.2.2⟩
      by_cases z : S ((k : Int) + 1) = 0
      · rw [(mc_zero z).1, (mc_zero z).2]; exact ⟨i, h1, h2, h3⟩
      · refine ⟨i, by rw [(mc_some z).1]; omega, by rw [ma_at z, if_neg (by omega)]; exact h2, fun j hj => by rw [ma_at z, if_neg (by omega)]; exact h3 j hj⟩
set_option maxHeartbeats 4000000 in
set_option maxRecDepth 100000 in
theorem rbal_loop (s : StV w O base t sb v L n js) (hn : n ≤ 40) (ent : ByteArray) (a u : Int) (S : Int → Int) (hS : ∀ a, bal js n ent a u = S a) (i : Nat) (hi : i ≤ mc S 7) (h0 : ∀ j, j < i → ma S 7 j ≠ a) (h1 : i < mc S 7 → ma S 7 i = a) (x : Int) (hx : x = if i < mc S 7 then S a else 0) :
    Calls Try.prog 28 #[ptr sb, .string ent, .int .i64 a, .int .i64 u] w fun e w' => e = .returned (.int .i64 x) ∧ Below w.heap.size w w' := by
  have RT := Lib.hid (rtrial_any s hn ent u S hS)
  have H0 := Lib.hid h0
  have H1 := Lib.hid h1
  have HX := Lib.hid hx
  have h7 := mc_le S 7
  clear s hS h0 h1 hx
  go_enter Try.func28, Try.ntmps28
  go_wp2_with fail
  refine (RT.out).mono ?_
  rintro e w1 ⟨v1, rfl, ho, hb⟩
  obtain ⟨A1, c1, rfl, oc, ocm, _, hat⟩ := ho.cut
  have HA := Lib.hid hat
  have HB := Lib.hid hb
  clear ho hat hb
  go_wp2
  go_loopg [16] (mc S 7) (fun gh s wr => ∃ j : Nat, j ≤ i ∧ gh = mc S 7 - j ∧ s = .int .i64 j ∧ Below w1.heap.size w1 wr)
  case atStart => exact ⟨0, Nat.zero_le _, by omega, rfl, Below.refl _ _⟩
  case round =>
    obtain ⟨j, hj, hgj, rfl, hbj⟩ := hrel
    have HGJ := Lib.hid hgj
    have HBJ := Lib.hid hbj
    have HBW := Lib.hid (HB.out.trans (hbj.mono HB.out.size))
    clear hgj hbj
    by_cases hlt : j < mc S 7
    · obtain ⟨b, off, rfl, hb, hc⟩ := HA.out.some (by omega)
      have ck := (HBJ.out.cell (p := ⟨b, off + j * 2, none⟩) hb).trans (hc j hlt).1
      have ck' := (HBJ.out.cell (p := ⟨b, off + j * 2 + 1, none⟩) hb).trans (hc j hlt).2
      clear hc
      by_cases hji : j < i
      · have q1 : (ma S 7 j == a) = false := by simpa using H0.out j hji
        go_wp2
        go_roundg (mc S 7 - (j + 1))
        case measure => have := HGJ.out; omega
        case rel => exact ⟨j + 1, by omega, rfl, by go_num, HBJ.out.alloc HBJ.out.size _⟩
      · obtain rfl : j = i := by omega
        have qe := H1.out hlt
        have q1 : (ma S 7 j == a) = true := by simpa using qe
        have HE : Hid (mm S 7 j = x) := Lib.hid (by rw [HX.out, if_pos hlt]; unfold mm; rw [qe])
        clear qe
        go_wp2
        go_ret
        exact ⟨ret_i HE.out, HBW.out.alloc HBW.out.size _⟩
    · have HI : Hid (x = 0) := Lib.hid (by rw [HX.out, if_neg (by omega)])
      obtain rfl : j = mc S 7 := by omega
      clear hlt
      go_wp2
      go_ret
      exact ⟨ret_i HI.out.symm, HBW.out⟩
/-- the balance of an account; 0 of what is none -/
theorem rbal_any (s : StV w O base t sb v L n js) (hn : n ≤ 40) (ent : ByteArray) (a u : Int) :
    Calls Try.prog 28 #[ptr sb, .string ent, .int .i64 a, .int .i64 u] w fun e w' => e = .returned (.int .i64 (bal js n ent a u)) ∧ Below w.heap.size w w' := by
  have z : ¬ (1 ≤ a ∧ a ≤ 7) → bal js n ent a u = 0 := fun h => tot_zero n fun j hj => by
    unfold jb
    split
    · exact good_sm0 fun i hi e => by have := (s.inv.2.1 j hj).1.2.1 i hi; unfold LineOk at this; omega
    · rfl
  by_cases h : 1 ≤ a ∧ a ≤ 7 ∧ bal js n ent a u ≠ 0
  · obtain ⟨i, h1, h2, h3⟩ := mc_find (fun a => bal js n ent a u) a 7 ⟨h.1, by omega, h.2.2⟩
    exact rbal_loop s hn ent a u _ (fun _ => rfl) i (by omega) h3 (fun _ => h2) _ (if_pos h1).symm
  · have e0 : bal js n ent a u = 0 := by
      by_cases q : 1 ≤ a ∧ a ≤ 7
      · exact Classical.byContradiction fun k => h ⟨q.1, q.2, k⟩
      · exact z q
    refine rbal_loop s hn ent a u (fun a => bal js n ent a u) (fun _ => rfl) _ (Nat.le_refl _) (fun j hj e => ?_) (fun q => by omega) _ (by rw [if_neg (by omega), e0])
    have := ma_spec (fun a => bal js n ent a u) 7 j hj
    rw [e] at this
    exact this.2.2 e0
end
end Go.Proofs.Ytpbpflhoeidpnaa
