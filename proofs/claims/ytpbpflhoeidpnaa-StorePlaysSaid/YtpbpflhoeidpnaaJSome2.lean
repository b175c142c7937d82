/- The lines of law 6, whatever they are: a contract. -/
import Derived.Test.YtpbpflhoeidpnaaJSome
import Derived.Test.YtpbpflhoeidpnaaCutL
import Derived.WalkKit
import Derived.WalkSpells
import Derived.WalkLawsBesides
import Derived.Lib.Hide
import Derived.Deep.LoopGhost
import Derived.Deep.RegionHeld3
import Derived.Deep.RegionLaw
import Derived.IntWalk
namespace Go.Proofs.Ytpbpflhoeidpnaa
open Go.RowKit

/-- .. are answered -/
def SomeP (w : World) (e : Ending) (w' : World) : Prop := ∃ v n ga gm, e = .returned v ∧ n ≤ 44 ∧ SomeL v w' n ga gm ∧ Below w.heap.size w w'
/-- .. in memory of the call's own -/
def SomeQ (w : World) (e : Ending) (w' : World) : Prop := ∃ v n ga gm, e = .returned v ∧ n ≤ 44 ∧ SomeL v w' n ga gm ∧ Below w.heap.size w w' ∧ ∀ b, v.ownBlock = some b → w.heap.size ≤ b
theorem own_fresh {w : World} {E : TypeId} {base n : Nat} {v : Value} {ga gm : Nat → Int} (o : OwnL w E base v n ga gm) : ∀ b, v.ownBlock = some b → base ≤ b := fun b h => (World.ownsRow.lt o b h).1
set_option maxHeartbeats 4000000 in
set_option maxRecDepth 100000 in
theorem some_raw (A0 A1 : Option Addr) (n0 c0 n1 c1 : Nat) (g0 g1 : Nat → Int) (a2 a3 : Int) (w : World) (h0 : At w A0 n0 g0) (h1 : At w A1 n1 g1) :
    Calls Try.prog 22 #[.slice A0 n0 c0, .slice A1 n1 c1, .int .i64 a2, .int .i64 a3, .bool true] w (SomeQ w) := by
  obtain ⟨i0, hi, hz0, hz1, hz2⟩ := info_parts line_info
  have H0 := Lib.hid h0
  have H1 := Lib.hid h1
  clear h0 h1
  go_enter Try.func22, Try.ntmps22
  go_wp2
  go_loopg [11, 12] 44 (fun gh v i wr => ∃ (k : Nat) (fa fm : Nat → Int), k ≤ 44 ∧ gh = 44 - k ∧ i = .int .i64 k ∧ OwnL wr 26 w.heap.size v k fa fm ∧ Below w.heap.size w wr)
  case atStart => exact ⟨0, fun _ => 0, fun _ => 0, by omega, rfl, rfl, OwnL.nil _ _ _ _ _, Below.refl _ _⟩
  case round =>
    obtain ⟨k, fa, fm, hk, hgk, rfl, ho, hbw⟩ := hrel
    have HGK := Lib.hid hgk
    have HB := Lib.hid hbw
    obtain ⟨A2, c2, rfl, oc, ocm, _, oat⟩ := ho.cut
    have HO := Lib.hid ho
    clear hgk hbw ho oat
    by_cases hlt : k < n0 ∧ k < n1 ∧ k < 44
    · obtain ⟨l0, l1, l2⟩ := hlt
      obtain ⟨b, off, rfl, hb, hc⟩ := H0.out.some (by omega)
      obtain ⟨b', off', rfl, hbb, hc'⟩ := H1.out.some (by omega)
      have ck : wr.cell? ⟨b, off + k, none⟩ = some (.int .i64 (g0 k)) := (HB.out.cell (p := ⟨b, off + k, none⟩) hb).trans (hc k l0)
      have ck' : wr.cell? ⟨b', off' + k, none⟩ = some (.int .i64 (g1 k)) := (HB.out.cell (p := ⟨b', off' + k, none⟩) hbb).trans (hc' k l1)
      obtain ⟨x, hx⟩ : ∃ x, g0 k % 10 = x := ⟨_, rfl⟩
      have x1 : 0 ≤ x := by omega
      have x2 : x < 10 := by omega
      have HX := Lib.hid hx
      have hs1 : IntKind.i64.wrap (x - 1) = x - 1 := IntWalk.i64_in _ (by omega)
      have hi0 : (0 : Int) ≤ (k : Int) := by omega
      have hi1 : (k : Int) < (n0 : Int) := by omega
      have hi2 : (k : Int) < (n1 : Int) := by omega
      have HCW := Lib.hid (hc k l0)
      have HCW' := Lib.hid (hc' k l1)
      clear hc hc' hx
      go_wp2
      go_region_held3 (fun w' => w'.cell? ⟨b, off + k, none⟩ = some (.int .i64 (g0 k)) ∧ w'.cell? ⟨b', off' + k, none⟩ = some (.int .i64 (g1 k))) (first | go_keep) (first | (go_at_call 13; (with_reducible refine (within_at _ _ _ _ (by omega) (by omega) HX).mono ?_); rintro e w' ⟨rfl, rfl⟩) | (go_at_call 50; (with_reducible refine (amount_some _ _).mono ?_); rintro e w' ⟨y, rfl, rfl⟩) | (refine step_push_l rfl (.tmp 32) (.tmp 45) rfl line_type hi hz0 hz1 hz2 w w.heap.size k wr.heap.size _ fa fm (x - 1) y rfl rfl (by simp) (by simp) (HO.out.drew.alloc _) (by omega) (HB.out.drew.alloc HB.out.size _) (by have := HB.out.size; simp; omega) _ rfl ?_; intro b1 c1 w' ho' hb'; have k1 := (hb'.cell (p := ⟨b, off + k, none⟩) hb).trans HCW.out; have k2 := (hb'.cell (p := ⟨b', off' + k, none⟩) hbb).trans HCW'.out))
      have HO' := Lib.hid ho'
      have HB' := Lib.hid hb'
      clear ho' hb' k1 k2 ck ck' hs1
      go_wp2
      go_roundg (44 - (k + 1))
      case measure => have := HGK.out; omega
      case rel => exact ⟨k + 1, _, _, by omega, rfl, by go_num, HO'.out, HB'.out⟩
    · rcases (show ¬ k < n0 ∨ (k < n0 ∧ ¬ k < n1) ∨ (k < n0 ∧ k < n1 ∧ ¬ k < 44) by omega) with hq | ⟨hq1, hq⟩ | ⟨hq1, hq2, hq⟩
      all_goals
        clear hlt
        go_wp2
        go_ret
        exact ⟨_, k, fa, fm, rfl, hk, HO.out.someL, HB.out, own_fresh HO.out⟩
set_option maxHeartbeats 4000000 in
set_option maxRecDepth 100000 in
theorem some_play (A0 A1 : Option Addr) (n0 c0 n1 c1 : Nat) (g0 g1 : Nat → Int) (a2 a3 : Int) (w : World) (h0 : At w A0 n0 g0) (h1 : At w A1 n1 g1) :
    Calls Try.prog 22 #[.slice A0 n0 c0, .slice A1 n1 c1, .int .i64 a2, .int .i64 a3, .bool false] w (SomeQ w) := by
  obtain ⟨i0, hi, hz0, hz1, hz2⟩ := info_parts line_info
  have HR := Lib.hid (right_any A0 A1 n0 c0 n1 c1 g0 g1 w h0 h1)
  clear h0 h1
  go_enter Try.func22, Try.ntmps22
  go_wp2_with fail
  refine (HR.out).mono ?_
  rintro e wx ⟨v, S, rfl, hS, ho, hb⟩
  obtain ⟨A3, cx, rfl, xc, xcm, _, _⟩ := ho.cut
  have HO := Lib.hid ho
  have HB := Lib.hid hb
  have HS := Lib.hid hS
  have h7 := mc_le S 7
  unfold maxLen at xcm
  clear ho hb hS HR
  by_cases hq : mc S 7 = 0
  · have hq1 : ((mc S 7 : Int) == 0) = true := by simp [hq]
    clear hq
    go_wp2_with fail
    go_ret
    exact ⟨_, mc S 7, _, _, rfl, by omega, HO.out.someL, HB.out, own_fresh HO.out⟩
  · have hq1 : ((mc S 7 : Int) == 0) = false := by simp [hq]
    have hq2 : 1 ≤ mc S 7 := by omega
    clear hq
    go_wp2_with fail
    refine (within_some _ _ _ (by omega) (by omega)).mono ?_
    rintro e w' ⟨x, x1, x2, rfl, rfl⟩
    obtain ⟨t, rfl⟩ : ∃ t : Nat, x = t := ⟨x.toNat, by omega⟩
    have ht : t < mc S 7 := by omega
    obtain ⟨b, c', e', _, _, _, hlt', hcell⟩ := HO.out.some (by omega)
    injection e' with e1 e2 e3
    subst e1
    subst e3
    have d1 := (hcell t ht).1
    have d2 := (hcell t ht).2
    have z1 := (hcell 0 (by omega)).1
    have z2 := (hcell 0 (by omega)).2
    rw [show 0 * 2 = 0 from rfl] at z1
    rw [show 0 * 2 + 1 = 1 from rfl] at z2
    have f1 := World.ownsRow.frozenAt HO.out (t * 2)
    have f2 := World.ownsRow.frozenAt HO.out (t * 2 + 1)
    have y1 := World.ownsRow.frozenAt HO.out 0
    have y2 := World.ownsRow.frozenAt HO.out 1
    obtain ⟨_, _, bd1, bd2⟩ := HS.out.mm_bd t ht
    have HCE := Lib.hid hcell
    clear hcell e2
    go_wp2_with fail
    refine (within_some _ _ _ (by omega) (by omega)).mono ?_
    rintro e w' ⟨y, u1, u2, rfl, rfl⟩
    rcases (show y = 0 ∨ y = 1 ∨ y = 2 ∨ y = 3 ∨ y = 4 ∨ y = 5 ∨ 6 ≤ y by omega) with rfl | rfl | rfl | rfl | rfl | rfl | hy
    · go_wp2
      go_ret
      exact ⟨_, mc S 7, _, _, rfl, by omega, (HO.out.setM t (mm S 7 t + 1)).someL, HB.out.setCell (World.ownsRow.lt HO.out b rfl).1 _, own_fresh HO.out⟩
    · go_wp2_with fail
      refine (within_some _ _ _ (by omega) (by omega)).mono ?_
      rintro e w' ⟨q, q1, q2, rfl, rfl⟩
      go_wp2
      go_ret
      exact ⟨_, mc S 7, _, _, rfl, by omega, (HO.out.setA t (q - 1)).someL, HB.out.setCell (World.ownsRow.lt HO.out b rfl).1 _, own_fresh HO.out⟩
    · go_wp2_with (first | (at_builtin; (refine wpList_push_l rfl (.tmp 83) (.tmp 88) rfl line_type hi hz0 hz1 hz2 w w.heap.size (mc S 7) wx.heap.size _ _ _ (ma S 7 t) (mm S 7 t) rfl rfl (by simp) (by simp) (HO.out.alloc _) (by omega) (HB.out.alloc HB.out.size _) (by have := HB.out.size; simp; omega) _ rfl ?_; intro b1 c1 w' ho' hb' hg' hat'; have HO' := Lib.hid ho'; have HB' := Lib.hid hb'; clear ho' hg' hat' hb')))
      go_ret
      exact ⟨_, mc S 7 + 1, _, _, rfl, by omega, HO'.out.someL, HB'.out, own_fresh HO'.out⟩
    · have HL1 : Hid (AtL wx (some ⟨b, 0, none⟩) t (ma S 7) (mm S 7)) := Lib.hid (.inr ⟨b, 0, rfl, hlt', fun j hj => by rw [Nat.zero_add]; exact HCE.out j (by omega)⟩)
      have HL2 : Hid (AtL wx (if cx = t + 1 then some ⟨b, 0, none⟩ else some ⟨b, (t + 1) * 2, none⟩) (mc S 7 - (t + 1)) (fun j => ma S 7 (t + 1 + j)) (fun j => mm S 7 (t + 1 + j))) := Lib.hid (by
        by_cases q : cx = t + 1
        · exact .inl (by omega)
        · rw [if_neg q]
          exact .inr ⟨b, _, rfl, hlt', fun j hj => by
            have := HCE.out (t + 1 + j) (by omega)
            rwa [show (t + 1 + j) * 2 = (t + 1) * 2 + j * 2 by omega] at this⟩)
      have HL3 : Hid (∃ ad, (if cx = t + 1 then some (⟨b, 0, none⟩ : Addr) else some ⟨b, (t + 1) * 2, none⟩) = some ad) := Lib.hid (by split <;> exact ⟨_, rfl⟩)
      have s1 : IntKind.i64.wrap ((t : Int) + 1) = (t : Int) + 1 := IntWalk.i64_in _ (by omega)
      have s2 : ((t : Int) + 1).toNat = t + 1 := by omega
      have s3 : (0 : Int) ≤ (t : Int) + 1 := by omega
      have s4 : (0 : Int) ≤ (t : Int) := by omega
      have s5 : (t : Int) ≤ (cx : Int) := by omega
      have s6 : (t : Int) + 1 ≤ (mc S 7 : Int) := by omega
      have s7 : (mc S 7 : Int) ≤ (cx : Int) := by omega
      have s8 : (t : Int).toNat = t := by omega
      have s9 : (t : Int) ≤ (t : Int) := Int.le_refl _
      go_wp2
      go_region_held3 (fun _ => True) (trivial) (first | (refine step_cut_f rfl (.tmp 95) (.tmp 99) rfl line_type hi hz0 hz1 hz2 b 0 t (mc S 7 - (t + 1)) _ _ HL3.out _ _ _ _ rfl rfl HL1.out HL2.out (by omega) (by omega) ?_; intro Al cl wl e1 e2 e3 e4 e5 e7))
      have e6 : Below wx.heap.size wx wl := ⟨e5.os, e5.tape, e5.output, e5.size, e5.block⟩
      have HE : Hid (SomeL (.slice Al (t + (mc S 7 - (t + 1))) cl) wl (t + (mc S 7 - (t + 1))) (cat t (ma S 7) fun j => ma S 7 (t + 1 + j)) (cat t (mm S 7) fun j => mm S 7 (t + 1 + j))) := Lib.hid ⟨_, _, rfl, e1, e2, e3, e4⟩
      have HB6 := Lib.hid (HB.out.trans (e6.mono HB.out.size))
      have HFR : Hid (∀ x, (Value.slice Al (t + (mc S 7 - (t + 1))) cl).ownBlock = some x → w.heap.size ≤ x) := Lib.hid fun x hx => by
        have z0 := own_fresh HO.out b rfl
        have z1 := HB.out.size
        have z2 : wx.drew.heap.size = wx.heap.size := rfl
        rcases e7 x hx with q | q <;> omega
      clear e1 e2 e3 e4 e5 e6 e7 HL1 HL2 HL3 s1 s2 s3 s4 s5 s6 s7 s8 s9
      go_wp2
      all_goals
        go_ret
        exact ⟨_, t + (mc S 7 - (t + 1)), _, _, rfl, by omega, HE.out, HB6.out, HFR.out⟩
    · have s4 : (0 : Int) ≤ (t : Int) := by omega
      have s5 : (t : Int) < (mc S 7 : Int) := by omega
      have s6 : (0 : Int) < (mc S 7 : Int) := by omega
      have s8 : (t : Int).toNat = t := by omega
      have s7 : 0 < mc S 7 := by omega
      have HBW := Lib.hid (World.ownsRow.lt HO.out b rfl).1
      rcases Nat.eq_zero_or_pos t with h0 | h0
      · subst h0
        rw [show 0 * 2 = 0 from rfl] at d1 f1
        rw [show 0 * 2 + 1 = 1 from rfl] at d2 f2
        clear d1 d2 f1 f2 s4 s5 s8
        go_wp2
        go_region_law (fail)
        all_goals
          go_wp2
          go_ret
          exact ⟨_, mc S 7, _, _, rfl, by omega, ((((HO.out.setA 0 _).setM 0 _).setA 0 _).setM 0 _).drew.someL, Below.drew ((((HB.out.setCell HBW.out _).setCell HBW.out _).setCell HBW.out _).setCell HBW.out _), own_fresh HO.out⟩
      · have ne1 : ¬ t * 2 = 0 := by omega
        have ne2 : ¬ t * 2 + 1 = 0 := by omega
        have ne3 : ¬ t * 2 = 1 := by omega
        have ne4 : ¬ t * 2 + 1 = 1 := by omega
        have ne5 : ¬ 0 = t * 2 := by omega
        have ne6 : ¬ 1 = t * 2 := by omega
        go_wp2
        go_region_law (fail)
        all_goals
          go_wp2
          go_ret
          exact ⟨_, mc S 7, _, _, rfl, by omega, ((((HO.out.setA 0 _).setM 0 _).setA t _).setM t _).drew.someL, Below.drew ((((HB.out.setCell HBW.out _).setCell HBW.out _).setCell HBW.out _).setCell HBW.out _), own_fresh HO.out⟩
    · go_wp2
      go_ret
      exact ⟨_, mc S 7, _, _, rfl, by omega, (HO.out.setM t 0).someL, HB.out.setCell (World.ownsRow.lt HO.out b rfl).1 _, own_fresh HO.out⟩
    · have k0 : (y == 0) = false := by simp; omega
      have k1 : (y == 1) = false := by simp; omega
      have k2 : (y == 2) = false := by simp; omega
      have k3 : (y == 3) = false := by simp; omega
      have k4 : (y == 4) = false := by simp; omega
      have k5 : (y == 5) = false := by simp; omega
      go_wp2
      go_ret
      exact ⟨_, mc S 7, _, _, rfl, by omega, HO.out.someL, HB.out, own_fresh HO.out⟩
theorem some_fresh (A0 A1 : Option Addr) (n0 c0 n1 c1 : Nat) (g0 g1 : Nat → Int) (a2 a3 : Int) (q : Bool) (w : World) (h0 : At w A0 n0 g0) (h1 : At w A1 n1 g1) :
    Calls Try.prog 22 #[.slice A0 n0 c0, .slice A1 n1 c1, .int .i64 a2, .int .i64 a3, .bool q] w (SomeQ w) := by
  cases q
  · exact some_play A0 A1 n0 c0 n1 c1 g0 g1 a2 a3 w h0 h1
  · exact some_raw A0 A1 n0 c0 n1 c1 g0 g1 a2 a3 w h0 h1
theorem some_any (A0 A1 : Option Addr) (n0 c0 n1 c1 : Nat) (g0 g1 : Nat → Int) (a2 a3 : Int) (q : Bool) (w : World) (h0 : At w A0 n0 g0) (h1 : At w A1 n1 g1) :
    Calls Try.prog 22 #[.slice A0 n0 c0, .slice A1 n1 c1, .int .i64 a2, .int .i64 a3, .bool q] w (SomeP w) :=
  (some_fresh A0 A1 n0 c0 n1 c1 g0 g1 a2 a3 q w h0 h1).mono fun _ _ ⟨v, n, ga, gm, h1, h2, h3, h4, _⟩ => ⟨v, n, ga, gm, h1, h2, h3, h4⟩
end Go.Proofs.Ytpbpflhoeidpnaa
