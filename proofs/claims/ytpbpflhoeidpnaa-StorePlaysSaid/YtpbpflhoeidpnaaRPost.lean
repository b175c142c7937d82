/- The document's own store: Post: a contract. -/
import Derived.Test.YtpbpflhoeidpnaaRStore
import Derived.WalkKit
import Derived.WalkSpells
import Derived.WalkLawsBesides
import Derived.Lib.Hide
import Derived.Deep.LoopGhost
import Derived.Deep.RegionLaw
namespace Go.Proofs.Ytpbpflhoeidpnaa
open Go.RowKit

/-- what all lines and these come to goes beyond what may be, or it does not -/
theorem over_merged {js : Nat → Jn} {n : Nat} (iv : Inv n js) (ent : ByteArray) {m : Nat} {ga gm : Nat → Int} (g : Good m ga gm) (S : Int → Int) (hS : ∀ a, S a = bal js n ent a 399 + sm a ga gm m) :
    POver js n ent m ga gm ↔ ∃ i, i < mc S 7 ∧ ¬ Mon (mm S 7 i) := by
  constructor
  · rintro ⟨i, hi, h⟩
    have e : S (ga i) = bal js n ent (ga i) 399 + gm i := by rw [hS, good_sm g.2.2.1 hi]
    have lo := g.2.1 i hi
    unfold LineOk at lo
    obtain ⟨j, h1, h2, _⟩ := mc_find S (ga i) 7 ⟨lo.1, by omega, fun z => h (by rw [← e, z]; unfold Mon; omega)⟩
    exact ⟨j, h1, by unfold mm; rw [h2, e]; exact h⟩
  · rintro ⟨j, hj, h⟩
    unfold mm at h
    obtain ⟨a1, a2, a3⟩ := ma_spec S 7 j hj
    generalize ma S 7 j = a at *
    by_cases q : ∃ i, i < m ∧ ga i = a
    · obtain ⟨i, hi, rfl⟩ := q
      exact ⟨i, hi, by rw [hS, good_sm g.2.2.1 hi] at h; exact h⟩
    · rw [hS, good_sm0 fun i hi e => q ⟨i, hi, e⟩, Int.add_zero] at h
      exact absurd (iv.2.2 ent a) h
section
variable {w : World} {O : Nat → Nat} {base t sb n : Nat} {v : Value} {L : Nat → Value} {js : Nat → Jn}
set_option maxHeartbeats 4000000 in
set_option maxRecDepth 100000 in
/-- a journal that is refused, ahead of what all lines come to -/
theorem rpost_no (s : StV w O base t sb v L n js) (hn40 : n ≤ 40) (ent : ByteArray) (p kd of : Int) (m : Nat) (ga gm : Nat → Int) (l : Value) (e : Int) (hl : SomeL l w m ga gm) (hln : m ≤ 1000000) (h : PErr js n ent p kd of m ga gm e) (he : e = 1 ∨ e = 2 ∨ e = 3 ∨ e = 4) :
    Calls Try.prog 25 #[ptr sb, .string ent, .int .i64 p, .int .i64 kd, .int .i64 of, l] w fun r w' => r = .returned (.tuple #[.int .i64 0, .int .i64 e]) ∧ Below w.heap.size w w' := by
  obtain ⟨A, c, rfl, hmc, hcm, hN, hA⟩ := hl
  obtain ⟨A0, c0, rfl, hnc, hcm0, _⟩ := s.own.form
  have sc := s.cell
  have HS := Lib.hid s
  have HA := Lib.hid hA
  have HJ := Lib.hid s.inv.2.1
  clear s hA hN
  cases h
  case limit1 => omega
  case limit2 => omega
  case over1 => omega
  case over2 => omega
  case ok1 => omega
  case ok2 => omega
  case arg ha =>
    clear he
    by_cases h1 : ent = ⟨#[]⟩
    · subst h1
      clear ha
      go_enter Try.func25, Try.ntmps25
      go_wp2
      go_ret2
      exact ⟨rfl, Below.refl _ _⟩
    obtain ⟨q1, q1'⟩ := ent_some h1
    by_cases h2 : 0 ≤ p ∧ p ≤ 399
    · have PR := Lib.hid fun w => rperiod_yes p w h2.1 h2.2
      have h3 : ¬ (kd = 2 ∨ (kd = 1 ∧ of = 0)) := fun q => ha ⟨h1, h2.1, h2.2, q⟩
      by_cases h4 : kd = 1
      · subst h4
        have q4 : (of != 0) = true := by simpa using fun q => h3 (.inr ⟨rfl, q⟩)
        clear ha h1 h2 h3
        go_enter Try.func25, Try.ntmps25
        go_wp2_with (go_at_call 38; (with_reducible refine (PR.out _).mono ?_); rintro e w' ⟨rfl, rfl⟩)
        go_ret2
        exact ⟨rfl, Below.refl _ _⟩
      · have q3 : (kd != 1) = true := by simpa using h4
        have q4 : (kd != 2) = true := by simpa using fun q => h3 (.inl q)
        clear ha h1 h2 h3 h4
        go_enter Try.func25, Try.ntmps25
        go_wp2_with (go_at_call 38; (with_reducible refine (PR.out _).mono ?_); rintro e w' ⟨rfl, rfl⟩)
        go_ret2
        exact ⟨rfl, Below.refl _ _⟩
    · have PR := Lib.hid fun w => rperiod_no p w (by omega)
      clear ha h1 h2
      go_enter Try.func25, Try.ntmps25
      go_wp2_with (go_at_call 38; (with_reducible refine (PR.out _).mono ?_); rintro e w' ⟨rfl, rfl⟩)
      go_ret2
      exact ⟨rfl, Below.refl _ _⟩
  case none ha hk hno =>
    clear he
    subst hk
    obtain ⟨h1, h2, h3, _⟩ := ha
    obtain ⟨q1, q1'⟩ := ent_some h1
    have PR := Lib.hid fun w => rperiod_yes p w h2 h3
    by_cases hk : of < 1 ∨ (n : Int) < of
    · rcases (show of < 1 ∨ (¬ of < 1 ∧ (n : Int) < of) by omega) with hq | ⟨hq1, hq⟩
      all_goals
        clear hk hno h1 h2 h3
        go_enter Try.func25, Try.ntmps25
        go_wp2_with (go_at_call 38; (with_reducible refine (PR.out _).mono ?_); rintro e w' ⟨rfl, rfl⟩)
        go_ret2
        exact ⟨rfl, Below.refl _ _⟩
    · obtain ⟨k, rfl⟩ : ∃ k : Nat, of = (k : Int) + 1 := ⟨(of - 1).toNat, by omega⟩
      have hkn : k < n := by omega
      have hP : ¬ ((js k).ent = ent ∧ (js k).per = p ∧ (js k).kind ≠ 2) := fun q => hno ⟨k, rfl, hkn, q⟩
      have hJ := (HJ.out k hkn).2.1
      obtain ⟨bb, rfl, hbb, hjc⟩ := HS.out.at k hkn
      obtain ⟨_, c1, c2, c3, _, _⟩ := hjc
      have hway : (((js k).ent.toList == ent.toList) = false) ∨ (((js k).ent.toList == ent.toList) = true ∧ ((js k).per != p) = true) ∨ (((js k).ent.toList == ent.toList) = true ∧ ((js k).per != p) = false ∧ ((js k).kind != 1) = true) := by
        by_cases p1 : (js k).ent = ent
        · by_cases p2 : (js k).per = p
          · exact .inr (.inr ⟨(bytes_is _ _).2 p1, by simpa using p2, by simpa using fun z => hP ⟨p1, p2, by omega⟩⟩)
          · exact .inr (.inl ⟨(bytes_is _ _).2 p1, by simpa using p2⟩)
        · exact .inl (bytes_not p1)
      clear hP hno hk h1 h2 h3 hJ
      rcases hway with q2 | ⟨q2, q3⟩ | ⟨q2, q3, q4⟩
      all_goals
        go_enter Try.func25, Try.ntmps25
        go_wp2_with (go_at_call 38; (with_reducible refine (PR.out _).mono ?_); rintro e w' ⟨rfl, rfl⟩)
        go_ret2
        exact ⟨rfl, Below.refl _ _⟩
  case there k ha hk ho hp hth =>
    clear he
    obtain ⟨i, hi, h0, h1'⟩ := first_bad (P := fun j => (js j).of ≠ of) (n := n) fun q => by obtain ⟨j, hj, e⟩ := hth; exact q j hj e
    have hof : (js i).of = (k : Int) + 1 := by rw [← ho]; exact Classical.byContradiction h1'
    rw [ho] at h0
    have H0 := Lib.hid h0
    have H1 := Lib.hid hof
    clear h0 h1' hof hth
    obtain ⟨hkn, rfl, rfl, hk2⟩ := hp
    subst hk ho
    obtain ⟨h1, h2, h3, _⟩ := ha
    obtain ⟨q1, q1'⟩ := ent_some h1
    have PR := Lib.hid fun w => rperiod_yes (js k).per w h2 h3
    have hJ := HJ.out k hkn
    have hk1 : (js k).kind = 1 := by have := hJ.2.1; omega
    have hkm : (js k).n ≤ 20 := hJ.1.1
    have HE : Hid (∀ j, j < (js k).n → wrap64 (-(js k).gm j) = -(js k).gm j) := Lib.hid fun j hj => wrap_mon (hJ.1.2.1 j hj).2.2.2
    obtain ⟨bb, rfl, hbb, hjc⟩ := HS.out.at k hkn
    obtain ⟨⟨Ak, ck, hL, _, _, _, hAk⟩, _⟩ := HS.out.lines k hkn
    have HAK := Lib.hid hAk
    rw [hL] at hjc
    have HJC := Lib.hid hjc
    obtain ⟨_, c1, c2, c3, _, c5⟩ := hjc
    have q2 := (bytes_is (js k).ent (js k).ent).2 rfl
    have q3 : ((js k).per != (js k).per) = false := by simp
    have q4 : ((js k).kind != 1) = false := by simp [hk1]
    clear h1 h2 h3 hk2 hJ hk1 hL hAk
    go_enter Try.func25, Try.ntmps25
    go_wp2_with (go_at_call 38; (with_reducible refine (PR.out _).mono ?_); rintro e w' ⟨rfl, rfl⟩)
    clear c1 c2 c3 c5 sc
    go_loopg [97] n (fun gh s wr => ∃ j : Nat, j ≤ i ∧ gh = n - j ∧ s = .int .i64 j ∧ Below w.heap.size w wr)
    case atStart => exact ⟨0, Nat.zero_le _, by omega, rfl, Below.refl _ _⟩
    case round =>
      obtain ⟨j, hj, hgj, rfl, hbj⟩ := hrel
      have HGJ := Lib.hid hgj
      have HB := Lib.hid hbj
      clear hgj hbj
      by_cases hlt : j < n
      · obtain ⟨b', eb, hb, h5⟩ := HS.out.at j hlt
        injection eb with eb
        injection eb with eb
        subst eb
        obtain ⟨c0, c1, c2, c3, c4, c5⟩ := h5.below hb HB.out
        obtain ⟨⟨Aj, cj, hLj, _, _, _, _⟩, _⟩ := HS.out.lines j hlt
        rw [hLj] at c5
        clear h5 hLj
        by_cases hji : j < i
        · have e4 : ((js j).of == (k : Int) + 1) = false := by simpa using H0.out j hji
          go_wp2
          go_roundg (n - (j + 1))
          case measure => have := HGJ.out; omega
          case rel => exact ⟨j + 1, by omega, rfl, by go_num, HB.out.alloc HB.out.size _⟩
        · obtain rfl : j = i := by omega
          have e4 : ((js j).of == (k : Int) + 1) = true := by simpa using H1.out
          go_wp2
          go_ret2
          exact ⟨rfl, HB.out.alloc HB.out.size _⟩
      · have hjn : j = n := by omega
        clear hlt
        omega
  case form1 ha hk hg =>
    clear he
    subst hk
    obtain ⟨h1, h2, h3, h4⟩ := ha
    obtain ⟨q1, q1'⟩ := ent_some h1
    have PR := Lib.hid fun w => rperiod_yes p w h2 h3
    have ho0 : of = 0 := by omega
    subst ho0
    have HB := Lib.hid (Below.refl w.heap.size w)
    clear h1 h2 h3 h4
    have HG := Lib.hid hg
    clear hg
    go_enter Try.func25, Try.ntmps25
    go_wp2_with (go_at_call 38; (with_reducible refine (PR.out _).mono ?_); rintro e w' ⟨rfl, rfl⟩)
    clear sc
    refine (rcheck_no A m c ga gm _ (HA.out.below HB.out) hln HG).mono ?_
    rintro e w2 ⟨rfl, hb2⟩
    replace HB := Lib.hid (HB.out.trans (hb2.mono HB.out.size))
    have sc := (HS.out.below HB.out).cell
    clear hb2
    go_wp2
    go_ret2
    exact ⟨rfl, HB.out⟩
  case form2 k ha hk ho hp hth hf =>
    clear he
    rw [ho] at hth
    have H0 : Hid (∀ j, j < n → (js j).of ≠ (k : Int) + 1) := Lib.hid fun j hj e => hth ⟨j, hj, e⟩
    clear hth
    obtain ⟨hkn, rfl, rfl, hk2⟩ := hp
    subst hk ho
    obtain ⟨h1, h2, h3, _⟩ := ha
    obtain ⟨q1, q1'⟩ := ent_some h1
    have PR := Lib.hid fun w => rperiod_yes (js k).per w h2 h3
    have hJ := HJ.out k hkn
    have hk1 : (js k).kind = 1 := by have := hJ.2.1; omega
    have hkm : (js k).n ≤ 20 := hJ.1.1
    have HE : Hid (∀ j, j < (js k).n → wrap64 (-(js k).gm j) = -(js k).gm j) := Lib.hid fun j hj => wrap_mon (hJ.1.2.1 j hj).2.2.2
    obtain ⟨bb, rfl, hbb, hjc⟩ := HS.out.at k hkn
    obtain ⟨⟨Ak, ck, hL, _, _, _, hAk⟩, _⟩ := HS.out.lines k hkn
    have HAK := Lib.hid hAk
    rw [hL] at hjc
    have HJC := Lib.hid hjc
    obtain ⟨_, c1, c2, c3, _, c5⟩ := hjc
    have q2 := (bytes_is (js k).ent (js k).ent).2 rfl
    have q3 : ((js k).per != (js k).per) = false := by simp
    have q4 : ((js k).kind != 1) = false := by simp [hk1]
    clear h1 h2 h3 hk2 hJ hk1 hL hAk
    by_cases hg : Good m ga gm
    · have hu : ¬ PUndo (js k) m ga gm := fun q => hf ⟨hg, q⟩
      clear hf
      have HG := Lib.hid hg
      clear hg
      have HU : Hid (¬ SameL m (js k).n ga gm (js k).ga (fun j => wrap64 (-(js k).gm j))) := Lib.hid fun q => hu ⟨q.1, fun j hj => ⟨(q.2 j hj).1, by rw [(q.2 j hj).2]; exact HE.out j (by have := q.1; omega)⟩⟩
      clear hu HE
      go_enter Try.func25, Try.ntmps25
      go_wp2_with (go_at_call 38; (with_reducible refine (PR.out _).mono ?_); rintro e w' ⟨rfl, rfl⟩)
      clear c1 c2 c3 c5 sc
      go_loopg [97] n (fun gh s wr => ∃ j : Nat, j ≤ n ∧ gh = n - j ∧ s = .int .i64 j ∧ Below w.heap.size w wr)
      case atStart => exact ⟨0, Nat.zero_le _, by omega, rfl, Below.refl _ _⟩
      case round =>
        obtain ⟨j, hj, hgj, rfl, hbj⟩ := hrel
        have HGJ := Lib.hid hgj
        have HB := Lib.hid hbj
        clear hgj hbj
        by_cases hlt : j < n
        · obtain ⟨b', eb, hb, h5⟩ := HS.out.at j hlt
          injection eb with eb
          injection eb with eb
          subst eb
          obtain ⟨c0, c1, c2, c3, c4, c5⟩ := h5.below hb HB.out
          obtain ⟨⟨Aj, cj, hLj, _, _, _, _⟩, _⟩ := HS.out.lines j hlt
          rw [hLj] at c5
          clear h5 hLj
          have e4 : ((js j).of == (k : Int) + 1) = false := by simpa using H0.out j hlt
          go_wp2
          go_roundg (n - (j + 1))
          case measure => have := HGJ.out; omega
          case rel => exact ⟨j + 1, by omega, rfl, by go_num, HB.out.alloc HB.out.size _⟩
        · have hjn : j = n := by omega
          clear hlt
          subst hjn
          clear hj
          have sc := (HS.out.below HB.out).cell
          obtain ⟨_, _, _, _, _, c5⟩ := HJC.out.below hbb HB.out
          go_wp2_with fail
          clear sc
          clear c5
          refine (rcheck_yes A m c ga gm _ (HA.out.below HB.out) HG).mono ?_
          rintro e w2 ⟨rfl, hb2⟩
          replace HB := Lib.hid (HB.out.trans (hb2.mono HB.out.size))
          have sc := (HS.out.below HB.out).cell
          obtain ⟨_, _, _, _, _, c5⟩ := HJC.out.below hbb HB.out
          clear hb2
          go_wp2_with fail
          clear sc c5
          refine (rrevl Ak (js k).n ck (js k).ga (js k).gm _ (HAK.out.below HB.out) (by omega)).mono ?_
          rintro e w2 ⟨v2, rfl, ho2, hb2⟩
          replace HB := Lib.hid (HB.out.trans (hb2.mono HB.out.size))
          have sc := (HS.out.below HB.out).cell
          obtain ⟨_, _, _, _, _, c5⟩ := HJC.out.below hbb HB.out
          obtain ⟨A2, c2, rfl, _, _, _, hat2⟩ := ho2.cut
          have HAT2 := Lib.hid hat2
          clear hb2 ho2 hat2
          go_wp2_with fail
          clear sc
          clear c5
          refine (rsame_no A A2 m (js k).n c c2 ga gm _ _ _ (HA.out.below HB.out) HAT2.out hln HU).mono ?_
          rintro e w2 ⟨rfl, hb2⟩
          replace HB := Lib.hid (HB.out.trans (hb2.mono HB.out.size))
          have sc := (HS.out.below HB.out).cell
          obtain ⟨_, _, _, _, _, c5⟩ := HJC.out.below hbb HB.out
          clear hb2
          go_wp2
          go_ret2
          exact ⟨rfl, HB.out⟩
    · clear hf
      have HG := Lib.hid hg
      clear hg
      go_enter Try.func25, Try.ntmps25
      go_wp2_with (go_at_call 38; (with_reducible refine (PR.out _).mono ?_); rintro e w' ⟨rfl, rfl⟩)
      clear c1 c2 c3 c5 sc
      go_loopg [97] n (fun gh s wr => ∃ j : Nat, j ≤ n ∧ gh = n - j ∧ s = .int .i64 j ∧ Below w.heap.size w wr)
      case atStart => exact ⟨0, Nat.zero_le _, by omega, rfl, Below.refl _ _⟩
      case round =>
        obtain ⟨j, hj, hgj, rfl, hbj⟩ := hrel
        have HGJ := Lib.hid hgj
        have HB := Lib.hid hbj
        clear hgj hbj
        by_cases hlt : j < n
        · obtain ⟨b', eb, hb, h5⟩ := HS.out.at j hlt
          injection eb with eb
          injection eb with eb
          subst eb
          obtain ⟨c0, c1, c2, c3, c4, c5⟩ := h5.below hb HB.out
          obtain ⟨⟨Aj, cj, hLj, _, _, _, _⟩, _⟩ := HS.out.lines j hlt
          rw [hLj] at c5
          clear h5 hLj
          have e4 : ((js j).of == (k : Int) + 1) = false := by simpa using H0.out j hlt
          go_wp2
          go_roundg (n - (j + 1))
          case measure => have := HGJ.out; omega
          case rel => exact ⟨j + 1, by omega, rfl, by go_num, HB.out.alloc HB.out.size _⟩
        · have hjn : j = n := by omega
          clear hlt
          subst hjn
          clear hj
          have sc := (HS.out.below HB.out).cell
          obtain ⟨_, _, _, _, _, c5⟩ := HJC.out.below hbb HB.out
          go_wp2_with fail
          clear sc
          clear c5
          refine (rcheck_no A m c ga gm _ (HA.out.below HB.out) hln HG).mono ?_
          rintro e w2 ⟨rfl, hb2⟩
          replace HB := Lib.hid (HB.out.trans (hb2.mono HB.out.size))
          have sc := (HS.out.below HB.out).cell
          obtain ⟨_, _, _, _, _, c5⟩ := HJC.out.below hbb HB.out
          clear hb2
          go_wp2
          go_ret2
          exact ⟨rfl, HB.out⟩
end
end Go.Proofs.Ytpbpflhoeidpnaa
