/- StorePlays: its walk (the round of the first loop is to be written). -/
import Derived.Test.YtpbpflhoeidpnaaActs
import Derived.Test.YtpbpflhoeidpnaaJeq
import Derived.Test.YtpbpflhoeidpnaaRPost4
import Derived.Test.YtpbpflhoeidpnaaJSome2
import Derived.Test.YtpbpflhoeidpnaaLaw07d
import Derived.Test.YtpbpflhoeidpnaaStore3
import Derived.WalkKit
import Derived.WalkSpells
import Derived.WalkLawsBesides
import Derived.Lib.Hide
import Derived.Deep.LoopGhost
import Derived.Deep.DeepCutAuto
import Derived.Deep.CutBlock
import Derived.Deep.QuietTactic
import Derived.BigQuiet
import Derived.Deep.RegionHeld3
namespace Go.Proofs.Ytpbpflhoeidpnaa
open Go.RowKit

theorem lrtrial {w0 w : World} {O : Nat → Nat} {t sb n : Nat} {js : Nat → Jn} (h : Now w0 w O t sb n js) (hn : n ≤ 40) (ent : ByteArray) (u : Int) (S : Int → Int) (hS : ∀ a, bal js n ent a u = S a) :
    Calls Try.prog 27 #[ptr sb, .string ent, .int .i64 u] w fun e w' => ∃ v, e = .returned v ∧ OwnL w' 26 w.heap.size v (mc S 7) (ma S 7) (mm S 7) ∧ Below w.heap.size w w' := by
  obtain ⟨v, L, s⟩ := h.st
  exact rtrial_any s hn ent u S hS
theorem lrbal {w0 w : World} {O : Nat → Nat} {t sb n : Nat} {js : Nat → Jn} (h : Now w0 w O t sb n js) (hn : n ≤ 40) (ent : ByteArray) (a u x : Int) (hx : bal js n ent a u = x) :
    Calls Try.prog 28 #[ptr sb, .string ent, .int .i64 a, .int .i64 u] w fun e w' => e = .returned (.int .i64 x) ∧ Below w.heap.size w w' := by
  obtain ⟨v, L, s⟩ := h.st
  rw [← hx]; exact rbal_any s hn ent a u
theorem lclone {w0 w : World} {O : Nat → Nat} {t sb n : Nat} {js : Nat → Jn} (h : Now w0 w O t sb n js) (t' : Nat) :
    Calls Try.prog 24 #[ptr sb] w fun e w' => ∃ cb O', e = .returned (ptr cb) ∧ Now w0 w' O' t' cb n js ∧ ∀ t2, Step w0.heap.size O t2 w O' w' := by
  obtain ⟨v, L, s⟩ := h.st
  refine (clone_any s h.fin h.low.size t').mono ?_
  rintro e w' ⟨cb, O', rfl, a, b⟩
  exact ⟨cb, O', rfl, ⟨a, (b 1).fin, h.low.trans ((b 1).below h.fin (by decide) h.low.size)⟩, b⟩
/-- the entities that StorePlays posts for -/
def ide (j : Nat) : ByteArray := if j = 0 then ⟨#[97]⟩ else if j = 1 then ⟨#[98]⟩ else ⟨#[]⟩
/-- a posting and the three texts, in new blocks -/
theorem act_cells (w : World) (en pe kd of at' wh : Int) (v1 v2 : Value) (T U : TypeId) :
    ∃ wl, wl = (w.alloc (.cells #[.int .i64 en, .int .i64 pe, .int .i64 kd, .int .i64 of, v1, v2, .int .i64 at', .int .i64 wh] T)).alloc (.cells #[.string ⟨#[97]⟩, .string ⟨#[98]⟩, .string ⟨#[]⟩] U) ∧ Below w.heap.size w wl ∧ w.heap.size < wl.heap.size ∧
      (wl.cell? ⟨w.heap.size, 0, none⟩ = some (.int .i64 en) ∧ wl.cell? ⟨w.heap.size, 1, none⟩ = some (.int .i64 pe) ∧ wl.cell? ⟨w.heap.size, 2, none⟩ = some (.int .i64 kd) ∧ wl.cell? ⟨w.heap.size, 3, none⟩ = some (.int .i64 of) ∧
      wl.cell? ⟨w.heap.size, 4, none⟩ = some v1 ∧ wl.cell? ⟨w.heap.size, 5, none⟩ = some v2 ∧ wl.cell? ⟨w.heap.size, 6, none⟩ = some (.int .i64 at') ∧ wl.cell? ⟨w.heap.size, 7, none⟩ = some (.int .i64 wh)) ∧
      ∀ j, j < 3 → wl.cell? ⟨w.heap.size + 1, j, none⟩ = some (.string (ide j)) := by
  have h1 := heap_alloc_new w (.cells #[.int .i64 en, .int .i64 pe, .int .i64 kd, .int .i64 of, v1, v2, .int .i64 at', .int .i64 wh] T)
  have z1 : (w.alloc (.cells #[.int .i64 en, .int .i64 pe, .int .i64 kd, .int .i64 of, v1, v2, .int .i64 at', .int .i64 wh] T)).heap.size = w.heap.size + 1 := by simp
  have h2 := heap_alloc_new (w.alloc (.cells #[.int .i64 en, .int .i64 pe, .int .i64 kd, .int .i64 of, v1, v2, .int .i64 at', .int .i64 wh] T)) (.cells #[.string ⟨#[97]⟩, .string ⟨#[98]⟩, .string ⟨#[]⟩] U)
  have h3 := Below.heap_alloc (w.alloc (.cells #[.int .i64 en, .int .i64 pe, .int .i64 kd, .int .i64 of, v1, v2, .int .i64 at', .int .i64 wh] T)) (.cells #[.string ⟨#[97]⟩, .string ⟨#[98]⟩, .string ⟨#[]⟩] U) w.heap.size (by omega)
  rw [h1] at h3
  rw [z1] at h2
  refine ⟨_, rfl, ((Below.refl _ _).alloc (Nat.le_refl _) _).alloc (by omega) _, by simp; omega, ⟨?_, ?_, ?_, ?_, ?_, ?_, ?_, ?_⟩, fun j hj => ?_⟩
  all_goals first | (rw [cell_of_row _ w.heap.size _ _ T (0, 0) h3]; rfl) | skip
  rw [cell_of_row _ (w.heap.size + 1) j _ U (0, 0) h2]
  rcases (show j = 0 ∨ j = 1 ∨ j = 2 by omega) with rfl | rfl | rfl <;> rfl
/-- the texts that StorePlays asks for -/
def idt (j : Nat) : ByteArray := if j = 0 then ⟨#[97]⟩ else if j = 1 then ⟨#[98]⟩ else ⟨#[120]⟩
theorem idt_cell (w : World) (t : TypeId) {j : Nat} (hj : j < 3) : (w.alloc (.cells #[.string ⟨#[97]⟩, .string ⟨#[98]⟩, .string ⟨#[120]⟩] t)).cell? ⟨w.heap.size, j, none⟩ = some (.string (idt j)) := by
  rw [cell_of_row _ w.heap.size j _ t (0, 0) (heap_alloc_new w _)]
  rcases (show j = 0 ∨ j = 1 ∨ j = 2 by omega) with rfl | rfl | rfl <;> rfl
set_option maxHeartbeats 8000000 in
set_option maxRecDepth 100000 in
theorem storePlays_walk (a0 : Option Addr) (len0 cap0 : Nat) (w : World) (w0 : ActsAt w a0 len0) :
    Calls Try.prog 6 #[.slice a0 len0 cap0] w fun e w' => e = .returned (.bool true) ∧ Below w.heap.size w w' := by
  have HACT := Lib.hid w0
  clear w0
  go_enter Try.func6, Try.ntmps6
  go_wp2_with fail
  refine (new_any _).mono ?_
  rintro e w1 ⟨rfl, rfl⟩
  obtain ⟨O1, nw, _⟩ := now_new w w (fun _ => 0) (Fin0.zero _ _) (Below.refl _ _) 1 73 (fun _ => jz)
  have NN := Lib.hid nw
  obtain ⟨wb, hw2⟩ : ∃ wb, w.alloc (.cells #[.slice none 0 0] 73) = wb := ⟨_, rfl⟩
  rw [hw2] at NN
  rw [hw2]
  clear nw hw2
  go_wp2_with fail
  obtain ⟨O2, nr, st⟩ := now_new w wb O1 NN.out.fin NN.out.low 2 50 (fun _ => jz)
  replace NN := Lib.hid (NN.out.step (st 3) (by decide) (by decide))
  have NR := Lib.hid nr
  obtain ⟨wc, hw2⟩ : ∃ wc, wb.alloc (.cells #[.slice none 0 0] 50) = wc := ⟨_, rfl⟩
  rw [hw2] at NN NR
  rw [hw2]
  obtain ⟨sb2, hsb2⟩ : ∃ sb2, wb.heap.size = sb2 := ⟨_, rfl⟩
  rw [hsb2] at NR
  rw [hsb2]
  clear nr st hw2 hsb2
  go_loopg [5] 16 (fun gh i wr => ∃ (k N : Nat) (js : Nat → Jn) (O : Nat → Nat), k ≤ 16 ∧ gh = 16 - k ∧ i = .int .i64 k ∧ N ≤ k ∧ Now w wr O 1 w.heap.size N js ∧ Now w wr O 2 sb2 N js)
  case atStart => exact ⟨0, 0, fun _ => jz, O2, by omega, rfl, rfl, Nat.le_refl _, NN.out, NR.out⟩
  case round =>
    obtain ⟨k, N, js, O, hk, hgk, rfl, hNk, hn1, hn2⟩ := hrel
    have HGK := Lib.hid hgk
    have N1 := Lib.hid hn1
    have N2 := Lib.hid hn2
    clear hgk hn1 hn2 NN NR
    by_cases hlt : k < len0 ∧ k < 16
    · obtain ⟨l0, l1⟩ := hlt
      have hact : ∃ b off, a0 = some ⟨b, off, none⟩ ∧ b < w.heap.size ∧ ∃ en pe kd of A1 n1 c1 z1 A2 n2 c2 z2 at' wh, ActAt w b (off + k * 8) en pe kd of A1 n1 c1 z1 A2 n2 c2 z2 at' wh := by
        rcases HACT.out with h | ⟨b, off, e, hb, hc⟩
        · omega
        · exact ⟨b, off, e, hb, hc k l0⟩
      obtain ⟨b, off, rfl, hb, en, pe, kd, of, A1, n1, c1, z1, A2, n2, c2, z2, at', wh, act⟩ := hact
      have lw := N1.out.low
      have d0 := (lw.cell (p := ⟨b, off + k * 8, none⟩) hb).trans act.k0
      have d1 := (lw.cell (p := ⟨b, off + k * 8 + 1, none⟩) hb).trans act.k1
      have d2 := (lw.cell (p := ⟨b, off + k * 8 + 2, none⟩) hb).trans act.k2
      have d3 := (lw.cell (p := ⟨b, off + k * 8 + 3, none⟩) hb).trans act.k3
      have d4 := (lw.cell (p := ⟨b, off + k * 8 + 4, none⟩) hb).trans act.k4
      have d5 := (lw.cell (p := ⟨b, off + k * 8 + 5, none⟩) hb).trans act.k5
      have d6 := (lw.cell (p := ⟨b, off + k * 8 + 6, none⟩) hb).trans act.k6
      have d7 := (lw.cell (p := ⟨b, off + k * 8 + 7, none⟩) hb).trans act.k7
      have I1 := Lib.hid (act.r1.at.1.below lw)
      have I2 := Lib.hid (act.r2.at.1.below lw)
      clear lw act
      go_wp2_with fail
      refine (within_some _ _ _ (by omega) (by omega)).mono ?_
      rintro e w' ⟨x, x1, x2, rfl, rfl⟩
      obtain ⟨wl, hwl, kl, zl, ⟨q0, q1, q2, q3, q4, q5, q6, q7⟩, hide⟩ := act_cells wr en pe kd of at' wh (.slice A1 n1 c1) (.slice A2 n2 c2) 52 9
      rw [← hwl]
      obtain ⟨j, hj3, hj⟩ : ∃ j : Nat, j < 3 ∧ Int.tmod x 3 = j := ⟨(x % 3).toNat, by omega, by rw [Int.tmod_eq_emod_of_nonneg x1]; omega⟩
      have ci := hide j hj3
      replace N1 := Lib.hid (N1.out.below kl)
      replace N2 := Lib.hid (N2.out.below kl)
      replace I1 := Lib.hid (I1.out.below kl)
      replace I2 := Lib.hid (I2.out.below kl)
      obtain ⟨X, hX⟩ : ∃ X, wr.heap.size = X := ⟨_, rfl⟩
      rw [hX] at ci q0 q1 q2 q3 q4 q5 q6 q7 zl ⊢
      clear d0 d1 d2 d3 d4 d5 d6 d7 hwl hX kl hide
      have i1 : (0 : Int) ≤ (j : Int) := by omega
      have i2 : (j : Int) < 3 := by omega
      have i3 : j < 3 := hj3
      obtain ⟨id, hid⟩ : ∃ id, ide j = id := ⟨_, rfl⟩
      rw [hid] at ci
      clear hid
      go_wp2_with fail
      refine (within_some _ _ _ (by omega) (by omega)).mono ?_
      rintro e w' ⟨y, y1, y2, rfl, rfl⟩
      clear ci
      go_upto_if 53 with fail
      go_cut [8] (fun s0 wx => ∃ z : Int, s0 = .int .i64 z ∧ wl = wx)
      case first =>
        by_cases hq : Int.tmod pe 41 = 40
        all_goals
          go_wp2
          go_meet
          exact ⟨_, rfl, rfl⟩
      case rest =>
        obtain ⟨z, rfl, rfl⟩ := hcut
        go_wp2_with fail
        refine (some_fresh A1 A2 n1 c1 n2 c2 _ _ at' wh _ _ I1.out I2.out).mono ?_
        rintro e wx ⟨v, n, ga, gm, rfl, hn44, hl, hbx, hfr⟩
        have HL : Hid (SomeF O v wx n ga gm) := Lib.hid ⟨hl, fun b hb => .inr (N1.out.fin.2 b (hfr b hb))⟩
        obtain ⟨Av, cv, rfl, _, _, _, _⟩ := hl
        replace N1 := Lib.hid (N1.out.below hbx)
        replace N2 := Lib.hid (N2.out.below hbx)
        have p2 := cell_keep q2 hbx
        have p3 := cell_keep q3 hbx
        clear q0 q1 q2 q3 q4 q5 q6 q7 hbx hfr I1 I2
        obtain ⟨t, ht⟩ : ∃ t, kd % 6 = t := ⟨_, rfl⟩
        have t1 : 0 ≤ t := by omega
        have t2 : t < 6 := by omega
        have HT := Lib.hid ht
        clear ht
        go_wp2_with fail
        refine (within_at _ _ _ _ (by omega) (by omega) HT).mono ?_
        rintro e w' ⟨rfl, rfl⟩
        go_upto_block 2 with fail
        go_cut [7, 8, 9, 10, 11] (fun s7 s8 s9 s10 s11 wy => ∃ (id' : ByteArray) (z' : Int) (n' : Nat) (ga' gm' : Nat → Int) (kd' of' : Int), s7 = .string id' ∧ s8 = .int .i64 z' ∧ s10 = .int .i64 kd' ∧ s11 = .int .i64 of' ∧ n' ≤ 1000 ∧ SomeF O s9 wy n' ga' gm' ∧ Now w wy O 1 w.heap.size N js ∧ Now w wy O 2 sb2 N js)
        case first => as_aux_lemma =>
          rcases (show t = 0 ∨ t = 1 ∨ 2 ≤ t by omega) with rfl | rfl | h2t
          · obtain ⟨o, ho⟩ : ∃ o : Nat, of % ((N : Int) + 2) = o := ⟨(of % ((N : Int) + 2)).toNat, by have := Int.emod_nonneg of (show (N : Int) + 2 ≠ 0 by omega); omega⟩
            have HOX := Lib.hid ho
            clear ho
            obtain ⟨v2, L2, s2⟩ := N2.out.st
            have c2 := s2.cell
            obtain ⟨Ar, cr, rfl, hr1, hr2, _⟩ := s2.own.form
            have HS2 := Lib.hid s2
            have e2 : IntKind.i64.wrap ((N : Int) + 2) = (N : Int) + 2 := IntWalk.i64_in _ (by omega)
            clear s2
            go_wp2
            go_big_quiet ((go_at_call 13; exact quiet_same (within_at _ _ _ _ (by omega) (by omega) HOX)))
            obtain ⟨wz, hwz⟩ : ∃ wz, wx.drewN nq = wz := ⟨_, rfl⟩
            rw [hwz]
            have kz : Below wx.heap.size wx wz := by rw [← hwz]; exact drewN_below _ _ _
            replace N1 := Lib.hid (N1.out.below kz)
            replace N2 := Lib.hid (N2.out.below kz)
            replace HL := Lib.hid (HL.out.below kz)
            replace HS2 := Lib.hid (HS2.out.below kz)
            have c2' := cell_keep c2 kz
            have p3' := cell_keep p3 kz
            clear c2 p2 p3 kz hwz e2
            by_cases hC : 0 < o ∧ o ≤ N ∧ ¬ Int.tmod of 5 = 0
            · obtain ⟨o1, o2, o3⟩ := hC
              obtain ⟨kk, hkk⟩ : ∃ kk, o = kk + 1 := ⟨o - 1, by omega⟩
              have e3 : IntKind.i64.wrap ((o : Int) - 1) = (kk : Int) := (IntWalk.i64_in _ (by omega)).trans (by omega)
              have b3 : (0 : Int) ≤ (kk : Int) := by omega
              have b4 : (kk : Int) < (N : Int) := by omega
              obtain ⟨br, rfl, hbr, hjc⟩ := HS2.out.at kk (by omega)
              obtain ⟨_, r1, r2, _, _, r5⟩ := hjc
              have hlk := HS2.out.lines kk (by omega)
              have hg44 := (HS2.out.inv.2.1 kk (by omega)).1.1
              have HLK := Lib.hid hlk.1
              obtain ⟨Al, cl, hLk, _, _, _, hal⟩ := hlk.1
              rw [hLk] at r5
              have HAL := Lib.hid hal
              have hdr := below_drew wz
              clear hkk hlk hal hLk
              go_wp2
              go_region_held3 (fun w' => w'.cell? ⟨sb2, 0, none⟩ = some (.slice (some ⟨br, 0, none⟩) N cr) ∧ w'.cell? ⟨br, kk * 6 + 1, none⟩ = some (.string (js kk).ent) ∧ w'.cell? ⟨br, kk * 6 + 2, none⟩ = some (.int .i64 (js kk).per) ∧ w'.cell? ⟨br, kk * 6 + 5, none⟩ = some (.slice Al (js kk).n cl) ∧ Below wz.heap.size wz w') (first | go_keep) (first | (go_at_call 23; (with_reducible refine (rrevl Al (js kk).n cl (js kk).ga (js kk).gm _ (HAL.out.below hdr) (by omega)).mono ?_); rintro e w5 ⟨v5, rfl, ho5, hb5⟩; have k0 := cell_keep (w := wz.drew) c2' hb5; have k1 := cell_keep (w := wz.drew) r1 hb5; have k2 := cell_keep (w := wz.drew) r2 hb5; have k5 := cell_keep (w := wz.drew) r5 hb5; have k4 := hdr.trans hb5; have HO5 := Lib.hid ho5; clear ho5 hb5))
              go_wp2
              go_meet
              exact ⟨(js kk).ent, (js kk).per, (js kk).n, (js kk).ga, fun j => wrap64 (-(js kk).gm j), 2, o, rfl, rfl, rfl, rfl, by omega, SomeF.fresh N1.out.fin HO5.out (Nat.le_refl _), N1.out.below k4, N2.out.below k4⟩
            · rcases (show ¬ 0 < o ∨ (0 < o ∧ ¬ o ≤ N) ∨ (0 < o ∧ o ≤ N ∧ Int.tmod of 5 = 0) by
                by_cases q1 : 0 < o
                · by_cases q2 : o ≤ N
                  · exact .inr (.inr ⟨q1, q2, Classical.byContradiction fun q3 => hC ⟨q1, q2, q3⟩⟩)
                  · exact .inr (.inl ⟨q1, q2⟩)
                · exact .inl q1) with h | ⟨h, h'⟩ | ⟨h, h', h''⟩
              all_goals
                clear hC
                go_wp2
                go_meet
                exact ⟨id, z, n, ga, gm, 2, o, rfl, rfl, rfl, rfl, by omega, HL.out, N1.out, N2.out⟩
          · go_wp2
            go_big_quiet (fail)
            go_wp2
            go_meet
            exact ⟨id, z, n, ga, gm, _, _, rfl, rfl, rfl, rfl, by omega, HL.out.below (drewN_below _ _ _), N1.out.below (drewN_below _ _ _), N2.out.below (drewN_below _ _ _)⟩
          · have b0 : (t == 0) = false := by simp; omega
            have b1 : (t == 1) = false := by simp; omega
            go_wp2
            go_meet
            exact ⟨id, z, n, ga, gm, 1, 0, rfl, rfl, rfl, rfl, by omega, HL.out, N1.out, N2.out⟩
        case rest => as_aux_lemma =>
          clear HL N1 N2 HT p2 p3
          obtain ⟨id', z', n', ga', gm', kd', of', rfl, rfl, rfl, rfl, hn', hl, hm1, hm2⟩ := hcut
          obtain ⟨Av', cv', rfl, _, _, _, _⟩ := hl.1
          have HL := Lib.hid hl
          have N1 := Lib.hid hm1
          have N2 := Lib.hid hm2
          clear hl hm1 hm2
          go_upto_if 137 with fail
          go_cut [12] (fun s12 wy => ∃ O' : Nat → Nat, SomeF O' (.slice Av' n' cv') wy n' ga' gm' ∧ Now w wy O' 1 w.heap.size N js ∧ Now w wy O' 2 sb2 N js)
          case first => as_aux_lemma =>
            by_cases hk7 : k = 7
            · have b7 : ((k : Int) == 7) = true := by simp; omega
              clear hk7
              go_wp2_with fail
              refine (lclone N1.out 3).mono ?_
              rintro e wx1 ⟨cb, O3, rfl, n3, st⟩
              have C3 := Lib.hid n3
              replace N1 := Lib.hid (N1.out.step (st 4) (by decide) (by decide))
              replace N2 := Lib.hid (N2.out.step (st 4) (by decide) (by decide))
              replace HL := Lib.hid (HL.out.step (st 4) (by decide))
              clear n3 st b7
              have LL := lit_some wx1 #[.int .i64 1, .int .i64 5, .int .i64 2, .int .i64 (-5)] 26 wx1.heap.size 2 (two 1 2) (two 5 (-5)) rfl rfl (by unfold maxLen; omega)
              have kl : Below wx1.heap.size wx1 (wx1.alloc (.cells #[.int .i64 1, .int .i64 5, .int .i64 2, .int .i64 (-5)] 26)) := (Below.refl _ _).alloc (Nat.le_refl _) _
              replace C3 := Lib.hid (C3.out.below kl)
              replace N1 := Lib.hid (N1.out.below kl)
              replace N2 := Lib.hid (N2.out.below kl)
              replace HL := Lib.hid (HL.out.below kl)
              have HLL := Lib.hid LL
              clear LL kl
              obtain ⟨ec, hpc⟩ := perr_any (js := js) (n := N) (by omega) ⟨#[97]⟩ 0 1 0 2 (two 1 2) (two 5 (-5))
              have HPC := Lib.hid hpc
              clear hpc
              by_cases hec : ec = 0
              · subst hec
                go_wp2_with fail
                refine (lpost_ok C3.out (by decide) ⟨#[97]⟩ 0 1 0 2 (two 1 2) (two 5 (-5)) _ HLL.out HPC.out).mono ?_
                rintro e wx2 ⟨rfl, O4, _, st⟩
                replace N1 := Lib.hid (N1.out.step st (by decide) (by decide))
                replace N2 := Lib.hid (N2.out.step st (by decide) (by decide))
                replace HL := Lib.hid (HL.out.step st (by decide))
                clear st
                go_wp2
                go_meet
                exact ⟨O4, HL.out, N1.out, N2.out⟩
              · have HEC := Lib.hid hec
                clear hec
                go_wp2_with fail
                refine (lpost_no C3.out ⟨#[97]⟩ 0 1 0 2 (two 1 2) (two 5 (-5)) _ ec HLL.out (by omega) HPC.out HEC.out).mono ?_
                rintro e wx2 ⟨rfl, hb2⟩
                replace N1 := Lib.hid (N1.out.below hb2)
                replace N2 := Lib.hid (N2.out.below hb2)
                replace HL := Lib.hid (HL.out.below hb2)
                clear hb2
                go_wp2
                go_meet
                exact ⟨_, HL.out, N1.out, N2.out⟩
            · have b7 : ((k : Int) == 7) = false := by simp; omega
              clear hk7
              go_wp2
              go_meet
              exact ⟨_, HL.out, N1.out, N2.out⟩
          case rest => as_aux_lemma =>
            clear HL N1 N2
            obtain ⟨O', hl, hm1, hm2⟩ := hcut
            have HL := Lib.hid hl
            have N1 := Lib.hid hm1
            have N2 := Lib.hid hm2
            clear hl hm1 hm2
            obtain ⟨er, hpr⟩ := perr_any (js := js) (n := N) (by omega) id' z' kd' of' n' ga' gm'
            have HPR := Lib.hid hpr
            clear hpr
            by_cases her : er = 0
            · subst her
              go_wp2_with fail
              refine (lpost_ok N1.out (by decide) id' z' kd' of' n' ga' gm' _ HL.out.1 HPR.out).mono ?_
              rintro e wx3 ⟨rfl, O5, n5, st⟩
              replace N1 := Lib.hid n5
              replace N2 := Lib.hid (N2.out.step st (by decide) (by decide))
              replace HL := Lib.hid (HL.out.step st (by decide))
              clear n5 st
              go_wp2_with fail
              refine (lrpost_ok N2.out (by decide) (by omega) id' z' kd' of' n' ga' gm' _ HL.out.1 HPR.out).mono ?_
              rintro e wx4 ⟨rfl, O6, n6, st⟩
              replace N1 := Lib.hid (N1.out.step st (by decide) (by decide))
              replace N2 := Lib.hid n6
              clear n6 st
              go_wp2
              go_roundg (16 - (k + 1))
              case measure => have := HGK.out; omega
              case rel => exact ⟨k + 1, N + 1, _, O6, by omega, rfl, by go_num, by omega, N1.out, N2.out⟩
            · have HER := Lib.hid her
              clear her
              go_wp2_with fail
              refine (lpost_no N1.out id' z' kd' of' n' ga' gm' _ er HL.out.1 (by omega) HPR.out HER.out).mono ?_
              rintro e wx3 ⟨rfl, hb3⟩
              replace N1 := Lib.hid (N1.out.below hb3)
              replace N2 := Lib.hid (N2.out.below hb3)
              replace HL := Lib.hid (HL.out.below hb3)
              clear hb3
              go_wp2_with fail
              refine (lrpost_no N2.out (by omega) id' z' kd' of' n' ga' gm' _ er HL.out.1 (by omega) HPR.out HER.out).mono ?_
              rintro e wx4 ⟨rfl, hb4⟩
              replace N1 := Lib.hid (N1.out.below hb4)
              replace N2 := Lib.hid (N2.out.below hb4)
              clear hb4
              go_wp2
              go_roundg (16 - (k + 1))
              case measure => have := HGK.out; omega
              case rel => exact ⟨k + 1, N, js, O', by omega, rfl, by go_num, by omega, N1.out, N2.out⟩
    · have hN40 : N ≤ 40 := by omega
      obtain ⟨vr, Lr, sr⟩ := N2.out.st
      have d1 := sr.cell
      obtain ⟨Ar, cr, rfl, _, _, _⟩ := sr.own.form
      have hjr : AtJ wr (.slice Ar N cr) N js := OwnJ.atJ sr.own fun k hk => (sr.lines k hk).1
      have HJR := Lib.hid hjr
      have HG : Hid (∀ k, k < N → (js k).n ≤ 1000) := Lib.hid fun k hk => by have := (sr.inv.2.1 k hk).1.1; omega
      have hdr := below_drew wr
      clear sr hjr
      rcases (show ¬ k < len0 ∨ (k < len0 ∧ ¬ k < 16) by omega) with hq | ⟨hq1, hq⟩
      all_goals
        clear hlt
        go_wp2
        go_region_held3 (fun w' => w'.cell? ⟨sb2, 0, none⟩ = some (.slice Ar N cr) ∧ Below wr.heap.size wr w') (first | go_keep) (first | (go_at_call 15; (with_reducible refine (ljournals (N1.out.below hdr)).mono ?_); rintro e w5 ⟨rfl, ⟨L5, t1, t2⟩, hb5⟩; have HJ5 : Hid (AtJ w5 (.slice (some ⟨wr.heap.size, 0, none⟩) N N) N js) := Lib.hid (OwnJ.atJ t1 fun k hk => (t2 k hk).someL); have k1 := cell_keep (w := wr.drew) d1 hb5; have k4 := hdr.trans hb5; clear t1 t2 hb5) | (go_at_call 26; (with_reducible refine (jeq_true _ _ N js _ HJ5.out (HJR.out.below k4) (by omega) HG.out).mono ?_); rintro e w6 ⟨rfl, hb6⟩; have l1 := cell_keep k1 hb6; have l4 := k4.trans (hb6.mono k4.size); clear hb6))
        replace N1 := Lib.hid (N1.out.below l4)
        replace N2 := Lib.hid (N2.out.below l4)
        clear d1 hdr k1 k4 l1 l4 HJ5 HJR HG
        go_wp2
        as_aux_lemma =>
          go_loopg [17] 7 (fun gh i wx => ∃ p : Nat, p ≤ 7 ∧ gh = 7 - p ∧ i = .int .i64 ((p : Int) - 1) ∧ Now w wx O 1 w.heap.size N js ∧ Now w wx O 2 sb2 N js)
          case atStart => exact ⟨0, by omega, rfl, rfl, N1.out, N2.out⟩
          case round =>
            obtain ⟨p, hp, hgp, rfl, hn1, hn2⟩ := hrel
            have HGP := Lib.hid hgp
            have M1 := Lib.hid hn1
            have M2 := Lib.hid hn2
            clear hgp hn1 hn2 N1 N2
            by_cases hlp : p < 7
            · obtain ⟨u, hu⟩ : ∃ u : Int, (p : Int) - 1 = u := ⟨_, rfl⟩
              have hu1 : u < 6 := by omega
              have hu2 : -1 ≤ u := by omega
              rw [hu]
              have HU := Lib.hid hu
              clear hu
              go_wp2
              have HC := Lib.hid fun (j : Nat) (hj : j < 3) => idt_cell wr 9 (j := j) hj
              have zl : wr.heap.size < (wr.alloc (.cells #[.string ⟨#[97]⟩, .string ⟨#[98]⟩, .string ⟨#[120]⟩] 9)).heap.size := by simp
              have kl : Below wr.heap.size wr (wr.alloc (.cells #[.string ⟨#[97]⟩, .string ⟨#[98]⟩, .string ⟨#[120]⟩] 9)) := (Below.refl _ _).alloc (Nat.le_refl _) _
              replace M1 := Lib.hid (M1.out.below kl)
              replace M2 := Lib.hid (M2.out.below kl)
              obtain ⟨wl, hwl⟩ : ∃ wl, wr.alloc (.cells #[.string ⟨#[97]⟩, .string ⟨#[98]⟩, .string ⟨#[120]⟩] 9) = wl := ⟨_, rfl⟩
              rw [hwl] at HC zl M1 M2
              rw [hwl]
              clear hwl kl
              obtain ⟨X, hX⟩ : ∃ X, wr.heap.size = X := ⟨_, rfl⟩
              rw [hX] at HC zl
              rw [hX]
              clear hX
              go_loopg [189] 3 (fun gh i wy => ∃ j : Nat, j ≤ 3 ∧ gh = 3 - j ∧ i = .int .i64 j ∧ Now w wy O 1 w.heap.size N js ∧ Now w wy O 2 sb2 N js ∧ Below wl.heap.size wl wy)
              case atStart => exact ⟨0, by omega, rfl, rfl, M1.out, M2.out, Below.refl _ _⟩
              case round =>
                obtain ⟨j, hj, hgj, rfl, hm1, hm2, hby⟩ := hrel
                have HGJ := Lib.hid hgj
                have P1 := Lib.hid hm1
                have P2 := Lib.hid hm2
                have HBY := Lib.hid hby
                clear hgj hm1 hm2 hby M1 M2
                by_cases hlj : j < 3
                · have cj := cell_keep (HC.out j hlj) HBY.out
                  obtain ⟨id, hid⟩ : ∃ id, idt j = id := ⟨_, rfl⟩
                  rw [hid] at cj
                  clear hid
                  go_wp2_with fail
                  refine (ltrial P1.out id u _ (fun _ => rfl)).mono ?_
                  rintro e wa ⟨va, rfl, hoa, hba⟩
                  have HA := Lib.hid hoa.someL
                  have Q1 := Lib.hid (P1.out.below hba)
                  have Q2 := Lib.hid (P2.out.below hba)
                  have HB1 := Lib.hid (HBY.out.trans (hba.mono HBY.out.size))
                  clear hoa hba cj
                  go_wp2_with fail
                  refine (lrtrial Q2.out (by omega) id u _ (fun _ => rfl)).mono ?_
                  rintro e wb2 ⟨vb, rfl, hob, hbb⟩
                  have HA2 := Lib.hid (HA.out.below hbb)
                  have HB := Lib.hid hob.someL
                  replace Q1 := Lib.hid (Q1.out.below hbb)
                  replace Q2 := Lib.hid (Q2.out.below hbb)
                  have HB2 := Lib.hid (HB1.out.trans (hbb.mono HB1.out.size))
                  clear hob hbb
                  go_wp2_with fail
                  refine (lsame HA2.out HB.out).mono ?_
                  rintro e wc2 ⟨rfl, hbc⟩
                  replace Q1 := Lib.hid (Q1.out.below hbc)
                  replace Q2 := Lib.hid (Q2.out.below hbc)
                  have HB3 := Lib.hid (HB2.out.trans (hbc.mono HB2.out.size))
                  clear hbc HA HA2 HB HB1 HB2
                  go_wp2
                  go_loopg [20] 9 (fun gh i wz => ∃ a : Nat, a ≤ 9 ∧ gh = 9 - a ∧ i = .int .i64 a ∧ Now w wz O 1 w.heap.size N js ∧ Now w wz O 2 sb2 N js ∧ Below wl.heap.size wl wz)
                  case atStart => exact ⟨0, by omega, rfl, rfl, Q1.out, Q2.out, HB3.out⟩
                  case round =>
                    obtain ⟨a, ha, hga, rfl, hm1, hm2, hbz⟩ := hrel
                    have HGA := Lib.hid hga
                    have R1 := Lib.hid hm1
                    have R2 := Lib.hid hm2
                    have HBZ := Lib.hid hbz
                    clear hga hm1 hm2 hbz Q1 Q2 HB3
                    by_cases hla : a < 9
                    · obtain ⟨x, hx⟩ : ∃ x, bal js N id (a : Int) u = x := ⟨_, rfl⟩
                      have HX := Lib.hid hx
                      clear hx
                      go_wp2_with fail
                      refine (lbal R1.out id a u x HX.out).mono ?_
                      rintro e wd ⟨rfl, hbd⟩
                      replace R1 := Lib.hid (R1.out.below hbd)
                      replace R2 := Lib.hid (R2.out.below hbd)
                      have HB4 := Lib.hid (HBZ.out.trans (hbd.mono HBZ.out.size))
                      clear hbd
                      go_wp2_with fail
                      refine (lrbal R2.out (by omega) id a u x HX.out).mono ?_
                      rintro e we ⟨rfl, hbe⟩
                      replace R1 := Lib.hid (R1.out.below hbe)
                      replace R2 := Lib.hid (R2.out.below hbe)
                      have HB5 := Lib.hid (HB4.out.trans (hbe.mono HB4.out.size))
                      clear hbe
                      go_wp2
                      go_roundg (9 - (a + 1))
                      case measure => have := HGA.out; omega
                      case rel => exact ⟨a + 1, by omega, rfl, by go_num, R1.out, R2.out, HB5.out⟩
                    · obtain rfl : a = 9 := by omega
                      clear hla
                      go_wp2
                      go_roundg (3 - (j + 1))
                      case measure => have := HGJ.out; omega
                      case rel => exact ⟨j + 1, by omega, rfl, by go_num, R1.out, R2.out, HBZ.out⟩
                · obtain rfl : j = 3 := by omega
                  clear hlj
                  have e7 : IntKind.i64.wrap (u + 1) = u + 1 := IntWalk.i64_in _ (by omega)
                  go_wp2
                  go_roundg (7 - (p + 1))
                  case measure => have := HGP.out; omega
                  case rel => exact ⟨p + 1, by omega, rfl, by have := HU.out; go_num, P1.out, P2.out⟩
            · obtain rfl : p = 7 := by omega
              clear hlp
              go_wp2_with fail
              refine (wakes7_any _).mono ?_
              rintro r wz ⟨rfl, hb⟩
              have H10 := Lib.hid (M1.out.low.trans (hb.mono M1.out.low.size))
              clear hb
              go_wp2
              go_ret
              exact ⟨rfl, H10.out⟩
end Go.Proofs.Ytpbpflhoeidpnaa
