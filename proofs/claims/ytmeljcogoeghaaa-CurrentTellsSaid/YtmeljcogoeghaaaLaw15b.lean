/- CurrentTells: its walk. -/
import Derived.Test.YtmeljcogoeghaaaLaw15a
import Derived.Test.YtmeljcogoeghaaaBridge
import Derived.WalkKit
import Derived.WalkSpells
import Derived.WalkLawsBesides
import Derived.Lib.Hide
import Derived.IntWalk
import Derived.Deep.LoopGhost
import Derived.Deep.RegionHeld3
import Derived.Deep.DeepCutAuto
import Derived.Deep.CutBlock
namespace Go.Proofs.Ytmeljcogoeghaaa
open Go.RowKit

/-- the document's losses, as they lie -/
theorem NowL.seen {w0 w : World} {O : Nat → Nat} {t sb n : Nat} {S : Int → Int → Int} {g : Nat → Bk} (h : NowL w0 w O t sb S) (iv : VInv S n g) : ∃ A c, w.cell? ⟨sb, 0, none⟩ = some (.slice A n c) ∧ n ≤ c ∧ c ≤ maxLen ∧ AtR ve 3 w A n g := by
  obtain ⟨v, m, f, s, iv'⟩ := h.st
  obtain ⟨rfl, ef⟩ := iv'.is.uniq iv.is
  obtain ⟨A, cc, rfl, hc, hm, _, ha⟩ := s.at
  exact ⟨A, cc, s.hd.c0, hc, hm, ha.ext ef⟩
set_option maxHeartbeats 16000000 in
set_option maxRecDepth 100000 in
theorem currentTells_walk (a0 : Option Addr) (len0 cap0 : Nat) (z0 : List Int) (a1 a2 a3 a4 a5 a6 a7 a8 : Int) (w : World) (w0 : IsRow .i64 w a0 len0 cap0 z0) (k1 : (Lit.int .i64 a1).wf = true) (k2 : (Lit.int .i64 a2).wf = true) (k3 : (Lit.int .i64 a3).wf = true) (_k4 : (Lit.int .i64 a4).wf = true) (_k5 : (Lit.int .i64 a5).wf = true) (_k6 : (Lit.int .i64 a6).wf = true) (_k7 : (Lit.int .i64 a7).wf = true) (_k8 : (Lit.int .i64 a8).wf = true) :
    Calls Try.prog 5 #[.slice a0 len0 cap0, .int .i64 a1, .int .i64 a2, .int .i64 a3, .int .i64 a4, .int .i64 a5, .int .i64 a6, .int .i64 a7, .int .i64 a8] w fun e w' => e = .returned (.bool true) ∧ Below w.heap.size w w' := by
  have W := Lib.hid fun w => wakes15_any w
  have CL := Lib.hid (plosses_some a0 len0 cap0 z0 w w0)
  have F1 := Lib.hid (wf_i64 k1)
  have F2 := Lib.hid (wf_i64 k2)
  have F3 := Lib.hid (wf_i64 k3)
  clear w0 k1 k2 k3 _k4 _k5 _k6 _k7 _k8
  go_enter Try.func5, Try.ntmps5
  go_wp2_with fail
  refine (CL.out).mono ?_
  rintro e w1 ⟨sbx, S, Ox, rfl, nx⟩
  have NX := Lib.hid nx
  have CO := Lib.hid (pof nx)
  obtain ⟨n, g, iv⟩ := nx.told
  have IV := Lib.hid iv
  clear nx iv CL
  go_wp2_with fail
  refine (CO.out).mono ?_
  rintro e w2 ⟨sbv, Ov, rfl, nv, hb2⟩
  have NV := Lib.hid nv
  have NX2 := Lib.hid (NX.out.below hb2)
  have L2 := Lib.hid NX2.out.low
  clear nv hb2 CO NX
  go_upto_if 41 with (first | (go_at_call 18; (with_reducible refine (amount_wf _ F1.out _).mono ?_); rintro e w' ⟨y1, hy1, rfl, rfl⟩) | (go_at_call 18; (with_reducible refine (amount_wf _ F2.out _).mono ?_); rintro e w' ⟨y2, hy2, rfl, rfl⟩) | (go_at_call 18; (with_reducible refine (amount_wf _ F3.out _).mono ?_); rintro e w' ⟨y3, hy3, rfl, rfl⟩))
  have HY3 := Lib.hid hy3
  clear hy1 hy2 hy3
  go_cut [4, 5, 6, 7] (fun s4 s5 s6 s7 wx => ∃ cap life year r : Int, s4 = .int .i64 cap ∧ s5 = .int .i64 life ∧ s6 = .int .i64 year ∧ s7 = .int .i64 r ∧ Below w2.heap.size w2 wx)
  case first =>
    go_wp2_with (first | (go_at_call 7; (with_reducible refine (within_some _ _ _ (by omega) (by omega)).mono ?_); rintro e w' ⟨x, x1, x2, rfl, rfl⟩) | (go_at_call 19; (with_reducible refine (rate_some a4 _).mono ?_); rintro e w8 ⟨b8, rfl, hb8⟩; have H8 := Lib.hid hb8; clear hb8) | (go_at_call 19; (with_reducible refine (rate_some a7 _).mono ?_); rintro e w9 ⟨b9, rfl, hb9⟩; have H9 := Lib.hid (H8.out.trans (hb9.mono H8.out.size)); clear hb9))
    · go_meet
      exact ⟨_, _, _, _, rfl, rfl, rfl, rfl, H9.out⟩
    · go_meet
      exact ⟨_, _, _, _, rfl, rfl, rfl, rfl, Below.refl _ _⟩
  case rest =>
    obtain ⟨cap, life, year, r, rfl, rfl, rfl, rfl, hbw⟩ := hcut
    have NXC := Lib.hid (NX2.out.below hbw)
    have NVC := Lib.hid (NV.out.below hbw)
    clear hbw NX2 NV L2
    rcases tax_any IV.out ⟨y1, y2, y3, cap, life, year, r⟩ with ⟨er, he0, hno⟩ | ⟨x, S', hok⟩
    · have CP := Lib.hid (ptax_no NVC.out IV.out ⟨y1, y2, y3, cap, life, year, r⟩ HY3.out hno)
      have CD := Lib.hid fun w5 (k : Below wc.heap.size wc w5) => rtax_no (NXC.out.below k) IV.out ⟨y1, y2, y3, cap, life, year, r⟩ hno
      have ee : (er == er) = true := by simp
      have e0 : (er == 0) = false := by simpa using he0
      unfold txa at CP CD
      dsimp only at CP CD
      clear hno he0
      go_wp2_with fail
      refine (CP.out).mono ?_
      rintro e w5 ⟨rfl, hb5⟩
      have R5 := Lib.hid (rec_lit w5 (txl 0 0 0 0 0 0 (.slice none 0 0)) 25 w5.heap.size rfl)
      have K5 := Lib.hid (hb5.alloc hb5.size (.cells (txl 0 0 0 0 0 0 (.slice none 0 0)).toArray 25))
      clear hb5 CP
      go_wp2_with fail
      refine (CD.out _ K5.out).mono ?_
      rintro e w6 ⟨rfl, hb6⟩
      have K6 := Lib.hid (K5.out.trans (hb6.mono K5.out.size))
      have z0 := cell_keep (R5.out 0 _ rfl) hb6
      have z1 := cell_keep (R5.out 1 _ rfl) hb6
      have z2 := cell_keep (R5.out 2 _ rfl) hb6
      have z3 := cell_keep (R5.out 3 _ rfl) hb6
      have z4 := cell_keep (R5.out 4 _ rfl) hb6
      have z5 := cell_keep (R5.out 5 _ rfl) hb6
      have z6 := cell_keep (R5.out 6 _ rfl) hb6
      have z7 : w5.heap.size < w6.heap.size := by have := hb6.size; simp at this; omega
      have CS := Lib.hid fun w7 => csame 0 0 0 0 0 0 none none 0 0 0 (fun _ => 0) (fun _ => 0) w7 (.inl rfl) (.inl rfl) (by omega) (fun _ _ => rfl)
      unfold txa at CS
      clear hb6 CD R5
      go_wp2_with fail
      have B6 := Lib.hid ((Below.refl w6.heap.size w6).alloc (Nat.le_refl _) (.cells (txl 0 0 0 0 0 0 (.slice none 0 0)).toArray 48))
      refine (CS.out _).mono ?_
      rintro e w7 ⟨rfl, hb7⟩
      have B7 := Lib.hid (B6.out.trans (hb7.mono B6.out.size))
      have NX7 := Lib.hid (NXC.out.below (K6.out.trans (B7.out.mono K6.out.size)))
      have NV7 := Lib.hid (NVC.out.below (K6.out.trans (B7.out.mono K6.out.size)))
      obtain ⟨Ax, cx, kx, _, _, hax⟩ := NX7.out.seen IV.out
      have HX7 := Lib.hid hax
      have CX := Lib.hid kx
      have J10 := Lib.hid (below_drew w7)
      clear CS hb7 B6 B7 NXC NVC K6 K5 z0 z1 z2 z3 z4 z5 z6 z7 hax
      go_wp2_with fail
      refine wp_region_noPanic ?_
      refine wp_region_held_drew (S := (fun w' => w'.cell? ⟨sbx, 0, none⟩ = some (.slice Ax n cx))) (by kernel_rfl) (by (try dsimp only); go_keep) (fun hHeld => ?_)
      first | (refine wpAnyH_take (i := 0) (v := ?_) (by simp only [List.getElem?_toArray, List.getElem?_cons_zero]; rfl) (by kernel_rfl) (by kernel_rfl) (by kernel_rfl) (fun _ _ _ h => h) (Or.inl ⟨by rfl, ?_⟩) (by assumption) ?_; rotate_left; (intro w' hw'; (try dsimp only at hw'); go_simp <;> with_reducible rfl)) | refine wpAnyH_take (i := 0) (by simp only [List.getElem?_toArray, List.getElem?_cons_zero]; rfl) (by kernel_rfl) (by kernel_rfl) (by kernel_rfl) (fun _ _ _ h => h) (Or.inr ⟨by rfl, rfl⟩) (by assumption) ?_
      try simp only [Act.put, List.setIfInBounds_toArray, List.set_cons_zero, List.set_cons_succ]
      first | (refine wpAnyH_take (i := 1) (v := ?_) (by simp only [List.getElem?_toArray, List.getElem?_cons_succ, List.getElem?_cons_zero]; rfl) (by kernel_rfl) (by kernel_rfl) (by kernel_rfl) (fun _ _ _ h => h) (Or.inl ⟨by rfl, ?_⟩) (by assumption) ?_; rotate_left; (intro w' hw'; (try dsimp only at hw'); go_simp <;> with_reducible rfl)) | refine wpAnyH_take (i := 1) (by simp only [List.getElem?_toArray, List.getElem?_cons_succ, List.getElem?_cons_zero]; rfl) (by kernel_rfl) (by kernel_rfl) (by kernel_rfl) (fun _ _ _ h => h) (Or.inr ⟨by rfl, rfl⟩) (by assumption) ?_
      try simp only [Act.put, List.setIfInBounds_toArray, List.set_cons_zero, List.set_cons_succ]
      first | (refine wpAnyH_take (i := 2) (v := ?_) (by simp only [List.getElem?_toArray, List.getElem?_cons_succ, List.getElem?_cons_zero]; rfl) (by kernel_rfl) (by kernel_rfl) (by kernel_rfl) (fun _ _ _ h => h) (Or.inl ⟨by rfl, ?_⟩) (by assumption) ?_; rotate_left; (intro w' hw'; (try dsimp only at hw'); go_simp <;> with_reducible rfl)) | refine wpAnyH_take (i := 2) (by simp only [List.getElem?_toArray, List.getElem?_cons_succ, List.getElem?_cons_zero]; rfl) (by kernel_rfl) (by kernel_rfl) (by kernel_rfl) (fun _ _ _ h => h) (Or.inr ⟨by rfl, rfl⟩) (by assumption) ?_
      try simp only [Act.put, List.setIfInBounds_toArray, List.set_cons_zero, List.set_cons_succ]
      first | (refine wpAnyH_take (i := 3) (v := ?_) (by simp only [List.getElem?_toArray, List.getElem?_cons_succ, List.getElem?_cons_zero]; rfl) (by kernel_rfl) (by kernel_rfl) (by kernel_rfl) (fun _ _ _ h => h) (Or.inl ⟨by rfl, ?_⟩) (by assumption) ?_; rotate_left; (intro w' hw'; (try dsimp only at hw'); go_simp <;> with_reducible rfl)) | refine wpAnyH_take (i := 3) (by simp only [List.getElem?_toArray, List.getElem?_cons_succ, List.getElem?_cons_zero]; rfl) (by kernel_rfl) (by kernel_rfl) (by kernel_rfl) (fun _ _ _ h => h) (Or.inr ⟨by rfl, rfl⟩) (by assumption) ?_
      try simp only [Act.put, List.setIfInBounds_toArray, List.set_cons_zero, List.set_cons_succ]
      first | (refine wpAnyH_take (i := 4) (v := ?_) (by simp only [List.getElem?_toArray, List.getElem?_cons_succ, List.getElem?_cons_zero]; rfl) (by kernel_rfl) (by kernel_rfl) (by kernel_rfl) (fun _ _ _ h => h) (Or.inl ⟨by rfl, ?_⟩) (by assumption) ?_; rotate_left; (intro w' hw'; (try dsimp only at hw'); go_simp <;> with_reducible rfl)) | refine wpAnyH_take (i := 4) (by simp only [List.getElem?_toArray, List.getElem?_cons_succ, List.getElem?_cons_zero]; rfl) (by kernel_rfl) (by kernel_rfl) (by kernel_rfl) (fun _ _ _ h => h) (Or.inr ⟨by rfl, rfl⟩) (by assumption) ?_
      try simp only [Act.put, List.setIfInBounds_toArray, List.set_cons_zero, List.set_cons_succ]
      first | (refine wpAnyH_take (i := 5) (v := ?_) (by simp only [List.getElem?_toArray, List.getElem?_cons_succ, List.getElem?_cons_zero]; rfl) (by kernel_rfl) (by kernel_rfl) (by kernel_rfl) (fun _ _ _ h => h) (Or.inl ⟨by rfl, ?_⟩) (by assumption) ?_; rotate_left; (intro w' hw'; (try dsimp only at hw'); go_simp <;> with_reducible rfl)) | refine wpAnyH_take (i := 5) (by simp only [List.getElem?_toArray, List.getElem?_cons_succ, List.getElem?_cons_zero]; rfl) (by kernel_rfl) (by kernel_rfl) (by kernel_rfl) (fun _ _ _ h => h) (Or.inr ⟨by rfl, rfl⟩) (by assumption) ?_
      try simp only [Act.put, List.setIfInBounds_toArray, List.set_cons_zero, List.set_cons_succ]
      first | (refine wpAnyH_take (i := 6) (v := ?_) (by simp only [List.getElem?_toArray, List.getElem?_cons_succ, List.getElem?_cons_zero]; rfl) (by kernel_rfl) (by kernel_rfl) (by kernel_rfl) (fun _ _ _ h => h) (Or.inl ⟨by rfl, ?_⟩) (by assumption) ?_; rotate_left; (intro w' hw'; (try dsimp only at hw'); go_simp <;> with_reducible rfl)) | refine wpAnyH_take (i := 6) (by simp only [List.getElem?_toArray, List.getElem?_cons_succ, List.getElem?_cons_zero]; rfl) (by kernel_rfl) (by kernel_rfl) (by kernel_rfl) (fun _ _ _ h => h) (Or.inr ⟨by rfl, rfl⟩) (by assumption) ?_
      try simp only [Act.put, List.setIfInBounds_toArray, List.set_cons_zero, List.set_cons_succ]
      first | (refine wpAnyH_take (i := 7) (v := ?_) (by simp only [List.getElem?_toArray, List.getElem?_cons_succ, List.getElem?_cons_zero]; rfl) (by kernel_rfl) (by kernel_rfl) (by kernel_rfl) (fun _ _ _ h => h) (Or.inl ⟨by rfl, ?_⟩) (by assumption) ?_; rotate_left; (intro w' hw'; (try dsimp only at hw'); go_simp <;> with_reducible rfl)) | refine wpAnyH_take (i := 7) (by simp only [List.getElem?_toArray, List.getElem?_cons_succ, List.getElem?_cons_zero]; rfl) (by kernel_rfl) (by kernel_rfl) (by kernel_rfl) (fun _ _ _ h => h) (Or.inr ⟨by rfl, rfl⟩) (by assumption) ?_
      try simp only [Act.put, List.setIfInBounds_toArray, List.set_cons_zero, List.set_cons_succ]
      first | (refine wpAnyH_take (i := 8) (v := ?_) (by simp only [List.getElem?_toArray, List.getElem?_cons_succ, List.getElem?_cons_zero]; rfl) (by kernel_rfl) (by kernel_rfl) (by kernel_rfl) (fun _ _ _ h => h) (Or.inl ⟨by rfl, ?_⟩) (by assumption) ?_; rotate_left; (intro w' hw'; (try dsimp only at hw'); go_simp <;> with_reducible rfl)) | refine wpAnyH_take (i := 8) (by simp only [List.getElem?_toArray, List.getElem?_cons_succ, List.getElem?_cons_zero]; rfl) (by kernel_rfl) (by kernel_rfl) (by kernel_rfl) (fun _ _ _ h => h) (Or.inr ⟨by rfl, rfl⟩) (by assumption) ?_
      try simp only [Act.put, List.setIfInBounds_toArray, List.set_cons_zero, List.set_cons_succ]
      first | (refine wpAnyH_take (i := 9) (v := ?_) (by simp only [List.getElem?_toArray, List.getElem?_cons_succ, List.getElem?_cons_zero]; rfl) (by kernel_rfl) (by kernel_rfl) (by kernel_rfl) (fun _ _ _ h => h) (Or.inl ⟨by rfl, ?_⟩) (by assumption) ?_; rotate_left; (intro w' hw'; (try dsimp only at hw'); go_simp <;> with_reducible rfl)) | refine wpAnyH_take (i := 9) (by simp only [List.getElem?_toArray, List.getElem?_cons_succ, List.getElem?_cons_zero]; rfl) (by kernel_rfl) (by kernel_rfl) (by kernel_rfl) (fun _ _ _ h => h) (Or.inr ⟨by rfl, rfl⟩) (by assumption) ?_
      try simp only [Act.put, List.setIfInBounds_toArray, List.set_cons_zero, List.set_cons_succ]
      first | (refine wpAnyH_take (i := 10) (v := ?_) (by simp only [List.getElem?_toArray, List.getElem?_cons_succ, List.getElem?_cons_zero]; rfl) (by kernel_rfl) (by kernel_rfl) (by kernel_rfl) (fun _ _ _ h => h) (Or.inl ⟨by rfl, ?_⟩) (by assumption) ?_; rotate_left; (intro w' hw'; (try dsimp only at hw'); go_simp <;> with_reducible rfl)) | refine wpAnyH_take (i := 10) (by simp only [List.getElem?_toArray, List.getElem?_cons_succ, List.getElem?_cons_zero]; rfl) (by kernel_rfl) (by kernel_rfl) (by kernel_rfl) (fun _ _ _ h => h) (Or.inr ⟨by rfl, rfl⟩) (by assumption) ?_
      try simp only [Act.put, List.setIfInBounds_toArray, List.set_cons_zero, List.set_cons_succ]
      first | (refine wpAnyH_take (i := 11) (v := ?_) (by simp only [List.getElem?_toArray, List.getElem?_cons_succ, List.getElem?_cons_zero]; rfl) (by kernel_rfl) (by kernel_rfl) (by kernel_rfl) (fun _ _ _ h => h) (Or.inl ⟨by rfl, ?_⟩) (by assumption) ?_; rotate_left; (intro w' hw'; (try dsimp only at hw'); go_simp <;> with_reducible rfl)) | refine wpAnyH_take (i := 11) (by simp only [List.getElem?_toArray, List.getElem?_cons_succ, List.getElem?_cons_zero]; rfl) (by kernel_rfl) (by kernel_rfl) (by kernel_rfl) (fun _ _ _ h => h) (Or.inr ⟨by rfl, rfl⟩) (by assumption) ?_
      try simp only [Act.put, List.setIfInBounds_toArray, List.set_cons_zero, List.set_cons_succ]
      first | (refine wpAnyH_take (i := 12) (v := ?_) (by simp only [List.getElem?_toArray, List.getElem?_cons_succ, List.getElem?_cons_zero]; rfl) (by kernel_rfl) (by kernel_rfl) (by kernel_rfl) (fun _ _ _ h => h) (Or.inl ⟨by rfl, ?_⟩) (by assumption) ?_; rotate_left; (intro w' hw'; (try dsimp only at hw'); go_simp <;> with_reducible rfl)) | refine wpAnyH_take (i := 12) (by simp only [List.getElem?_toArray, List.getElem?_cons_succ, List.getElem?_cons_zero]; rfl) (by kernel_rfl) (by kernel_rfl) (by kernel_rfl) (fun _ _ _ h => h) (Or.inr ⟨by rfl, rfl⟩) (by assumption) ?_
      try simp only [Act.put, List.setIfInBounds_toArray, List.set_cons_zero, List.set_cons_succ]
      first | (refine wpAnyH_take (i := 14) (v := ?_) (by simp only [List.getElem?_toArray, List.getElem?_cons_succ, List.getElem?_cons_zero]; rfl) (by kernel_rfl) (by kernel_rfl) (by kernel_rfl) (fun _ _ _ h => h) (Or.inl ⟨by rfl, ?_⟩) (by assumption) ?_; rotate_left; (intro w' hw'; (try dsimp only at hw'); go_simp <;> with_reducible rfl)) | refine wpAnyH_take (i := 14) (by simp only [List.getElem?_toArray, List.getElem?_cons_succ, List.getElem?_cons_zero]; rfl) (by kernel_rfl) (by kernel_rfl) (by kernel_rfl) (fun _ _ _ h => h) (Or.inr ⟨by rfl, rfl⟩) (by assumption) ?_
      try simp only [Act.put, List.setIfInBounds_toArray, List.set_cons_zero, List.set_cons_succ]
      first | (refine wpAnyH_take (i := 15) (v := ?_) (by simp only [List.getElem?_toArray, List.getElem?_cons_succ, List.getElem?_cons_zero]; rfl) (by kernel_rfl) (by kernel_rfl) (by kernel_rfl) (fun _ _ _ h => h) (Or.inl ⟨by rfl, ?_⟩) (by assumption) ?_; rotate_left; (intro w' hw'; (try dsimp only at hw'); go_simp <;> with_reducible rfl)) | refine wpAnyH_take (i := 15) (by simp only [List.getElem?_toArray, List.getElem?_cons_succ, List.getElem?_cons_zero]; rfl) (by kernel_rfl) (by kernel_rfl) (by kernel_rfl) (fun _ _ _ h => h) (Or.inr ⟨by rfl, rfl⟩) (by assumption) ?_
      try simp only [Act.put, List.setIfInBounds_toArray, List.set_cons_zero, List.set_cons_succ]
      first | (refine wpAnyH_take (i := 16) (v := ?_) (by simp only [List.getElem?_toArray, List.getElem?_cons_succ, List.getElem?_cons_zero]; rfl) (by kernel_rfl) (by kernel_rfl) (by kernel_rfl) (fun _ _ _ h => h) (Or.inl ⟨by rfl, ?_⟩) (by assumption) ?_; rotate_left; (intro w' hw'; (try dsimp only at hw'); go_simp <;> with_reducible rfl)) | refine wpAnyH_take (i := 16) (by simp only [List.getElem?_toArray, List.getElem?_cons_succ, List.getElem?_cons_zero]; rfl) (by kernel_rfl) (by kernel_rfl) (by kernel_rfl) (fun _ _ _ h => h) (Or.inr ⟨by rfl, rfl⟩) (by assumption) ?_
      try simp only [Act.put, List.setIfInBounds_toArray, List.set_cons_zero, List.set_cons_succ]
      first | (refine wpAnyH_take (i := 17) (v := ?_) (by simp only [List.getElem?_toArray, List.getElem?_cons_succ, List.getElem?_cons_zero]; rfl) (by kernel_rfl) (by kernel_rfl) (by kernel_rfl) (fun _ _ _ h => h) (Or.inl ⟨by rfl, ?_⟩) (by assumption) ?_; rotate_left; (intro w' hw'; (try dsimp only at hw'); go_simp <;> with_reducible rfl)) | refine wpAnyH_take (i := 17) (by simp only [List.getElem?_toArray, List.getElem?_cons_succ, List.getElem?_cons_zero]; rfl) (by kernel_rfl) (by kernel_rfl) (by kernel_rfl) (fun _ _ _ h => h) (Or.inr ⟨by rfl, rfl⟩) (by assumption) ?_
      try simp only [Act.put, List.setIfInBounds_toArray, List.set_cons_zero, List.set_cons_succ]
      refine wpAnyH_ready (rs := [13]) (by kernel_rfl) (by simp) (AllReadyH.cons (o := _) (by simp only [List.getElem?_toArray, List.getElem?_cons_succ, List.getElem?_cons_zero]; rfl) (fun K hK => ?_) AllReadyH.nil)
      go_simp
      (go_at_call 11; (with_reducible refine (pvrows (NV7.out.below J10.out) IV.out.is).mono ?_); rintro e w13 ⟨A13, c13, rfl, _, _, ho13, hb13⟩; have J13 := Lib.hid (J10.out.trans (hb13.mono J10.out.size)); obtain ⟨_, _, e13, _, _, _, hat13⟩ := ho13.at ve_len; injection e13 with e13 _ _; subst e13; have AT13 := Lib.hid hat13; have kx13 := cell_keep CX.out J13.out; clear ho13 hb13 hat13)
      refine hK.out _ _ ?_ (fun hHeld => ?_)
      · (try dsimp only); go_keep
      clear hK K
      try simp only [Act.put, List.setIfInBounds_toArray, List.set_cons_zero, List.set_cons_succ]
      refine wpAnyH_ready (rs := [18]) (by kernel_rfl) (by simp) (AllReadyH.cons (o := _) (by simp only [List.getElem?_toArray, List.getElem?_cons_succ, List.getElem?_cons_zero]; rfl) (fun K hK => ?_) AllReadyH.nil)
      go_simp
      (go_at_call 22; (with_reducible refine (vsame_true _ _ _ _ _ _ _ _ AT13.out (HX7.out.below J13.out) (by have := IV.out.le; omega) (fun _ _ => rfl)).mono ?_); rintro e w14 ⟨rfl, hb14⟩; have J14 := Lib.hid (J13.out.trans (hb14.mono J13.out.size)); have kx14 := cell_keep CX.out J14.out; clear hb14)
      refine hK.out _ _ ?_ (fun hHeld => ?_)
      · (try dsimp only); go_keep
      clear hK K
      try simp only [Act.put, List.setIfInBounds_toArray, List.set_cons_zero, List.set_cons_succ]
      first | (refine wpAnyH_take (i := 19) (v := ?_) (by simp only [List.getElem?_toArray, List.getElem?_cons_succ, List.getElem?_cons_zero]; rfl) (by kernel_rfl) (by kernel_rfl) (by kernel_rfl) (fun _ _ _ h => h) (Or.inl ⟨by rfl, ?_⟩) (by assumption) ?_; rotate_left; (intro w' hw'; (try dsimp only at hw'); go_simp <;> with_reducible rfl)) | refine wpAnyH_take (i := 19) (by simp only [List.getElem?_toArray, List.getElem?_cons_succ, List.getElem?_cons_zero]; rfl) (by kernel_rfl) (by kernel_rfl) (by kernel_rfl) (fun _ _ _ h => h) (Or.inr ⟨by rfl, rfl⟩) (by assumption) ?_
      try simp only [Act.put, List.setIfInBounds_toArray, List.set_cons_zero, List.set_cons_succ]
      first | (refine wpAnyH_take (i := 20) (v := ?_) (by simp only [List.getElem?_toArray, List.getElem?_cons_succ, List.getElem?_cons_zero]; rfl) (by kernel_rfl) (by kernel_rfl) (by kernel_rfl) (fun _ _ _ h => h) (Or.inl ⟨by rfl, ?_⟩) (by assumption) ?_; rotate_left; (intro w' hw'; (try dsimp only at hw'); go_simp <;> with_reducible rfl)) | refine wpAnyH_take (i := 20) (by simp only [List.getElem?_toArray, List.getElem?_cons_succ, List.getElem?_cons_zero]; rfl) (by kernel_rfl) (by kernel_rfl) (by kernel_rfl) (fun _ _ _ h => h) (Or.inr ⟨by rfl, rfl⟩) (by assumption) ?_
      try simp only [Act.put, List.setIfInBounds_toArray, List.set_cons_zero, List.set_cons_succ]
      refine wpAnyH_ready (rs := [21]) (by kernel_rfl) (by simp) (AllReadyH.cons (o := _) (by simp only [List.getElem?_toArray, List.getElem?_cons_succ, List.getElem?_cons_zero]; rfl) (fun K hK => ?_) AllReadyH.nil)
      go_simp
      (go_at_call 12; (with_reducible refine (W.out _).mono ?_); rintro e w15 ⟨rfl, hb15⟩; have J15 := Lib.hid (J14.out.trans (hb15.mono J14.out.size)); have kx15 := cell_keep CX.out J15.out; clear hb15)
      refine hK.out _ _ ?_ (fun hHeld => ?_)
      · (try dsimp only); go_keep
      clear hK K
      try simp only [Act.put, List.setIfInBounds_toArray, List.set_cons_zero, List.set_cons_succ]
      first | (refine wpAnyH_take (i := 22) (v := ?_) (by simp only [List.getElem?_toArray, List.getElem?_cons_succ, List.getElem?_cons_zero]; rfl) (by kernel_rfl) (by kernel_rfl) (by kernel_rfl) (fun _ _ _ h => h) (Or.inl ⟨by rfl, ?_⟩) (by assumption) ?_; rotate_left; (intro w' hw'; (try dsimp only at hw'); go_simp <;> with_reducible rfl)) | refine wpAnyH_take (i := 22) (by simp only [List.getElem?_toArray, List.getElem?_cons_succ, List.getElem?_cons_zero]; rfl) (by kernel_rfl) (by kernel_rfl) (by kernel_rfl) (fun _ _ _ h => h) (Or.inr ⟨by rfl, rfl⟩) (by assumption) ?_
      try simp only [Act.put, List.setIfInBounds_toArray, List.set_cons_zero, List.set_cons_succ]
      first | (refine wpAnyH_take (i := 23) (v := ?_) (by simp only [List.getElem?_toArray, List.getElem?_cons_succ, List.getElem?_cons_zero]; rfl) (by kernel_rfl) (by kernel_rfl) (by kernel_rfl) (fun _ _ _ h => h) (Or.inl ⟨by rfl, ?_⟩) (by assumption) ?_; rotate_left; (intro w' hw'; (try dsimp only at hw'); go_simp <;> with_reducible rfl)) | refine wpAnyH_take (i := 23) (by simp only [List.getElem?_toArray, List.getElem?_cons_succ, List.getElem?_cons_zero]; rfl) (by kernel_rfl) (by kernel_rfl) (by kernel_rfl) (fun _ _ _ h => h) (Or.inr ⟨by rfl, rfl⟩) (by assumption) ?_
      try simp only [Act.put, List.setIfInBounds_toArray, List.set_cons_zero, List.set_cons_succ]
      refine wpAnyH_done (by kernel_rfl) (NoPanic.normal ?_) _
      go_wp2
      go_ret
      exact ⟨rfl, (NX7.out.below J15.out).low⟩
    · have CP := Lib.hid (ptax_ok NVC.out IV.out ⟨y1, y2, y3, cap, life, year, r⟩ HY3.out x hok)
      have CD := Lib.hid fun w5 (k : Below wc.heap.size wc w5) => rtax_ok (NXC.out.below k) IV.out ⟨y1, y2, y3, cap, life, year, r⟩ x hok
      obtain ⟨n', g', iv', _⟩ := hok.left IV.out
      have hq := (hok.bd IV.out).2.2.2.2.2.2.2.2.2.2
      have IV' := Lib.hid iv'
      clear hok iv'
      obtain ⟨inc, ex, used, nw, txb, tax, q, u⟩ := x
      unfold txa at CP CD
      dsimp only at CP CD hq
      go_wp2_with fail
      refine (CP.out).mono ?_
      rintro e w5 ⟨sbb, Ob, U, cu, rfl, nb, hat, _, hb5⟩
      have NB := Lib.hid nb
      have H5 := Lib.hid hb5
      have HAT := Lib.hid hat
      have R5 := Lib.hid (rec_lit w5 (txl inc ex used nw txb tax (.slice U q cu)) 25 w5.heap.size rfl)
      have K5 := Lib.hid (hb5.alloc hb5.size (.cells (txl inc ex used nw txb tax (.slice U q cu)).toArray 25))
      clear nb hb5 hat CP
      go_wp2_with fail
      refine (CD.out _ K5.out).mono ?_
      rintro e w6 ⟨sbd, Od, U', cu', rfl, nd, hat', _, hb6⟩
      have ND := Lib.hid nd
      have K6 := Lib.hid (K5.out.trans (hb6.mono K5.out.size))
      have z0 := cell_keep (R5.out 0 _ rfl) hb6
      have z1 := cell_keep (R5.out 1 _ rfl) hb6
      have z2 := cell_keep (R5.out 2 _ rfl) hb6
      have z3 := cell_keep (R5.out 3 _ rfl) hb6
      have z4 := cell_keep (R5.out 4 _ rfl) hb6
      have z5 := cell_keep (R5.out 5 _ rfl) hb6
      have z6 := cell_keep (R5.out 6 _ rfl) hb6
      have z7 : w5.heap.size < w6.heap.size := by have := hb6.size; simp at this; omega
      have HA1 := Lib.hid ((HAT.out.below ((Below.refl _ _).alloc (Nat.le_refl _) _)).below hb6)
      have CS := Lib.hid fun w7 (k : Below w6.heap.size w6 w7) => csame inc ex used nw txb tax U U' q cu cu' u u w7 (HA1.out.below k) (hat'.below k) (by omega) (fun _ _ => rfl)
      unfold txa at CS
      have NB6 := Lib.hid ((NB.out.below ((Below.refl _ _).alloc (Nat.le_refl _) _)).below hb6)
      clear nd hb6 hat' CD R5
      go_wp2_with fail
      have B6 := Lib.hid ((Below.refl w6.heap.size w6).alloc (Nat.le_refl _) (.cells (txl inc ex used nw txb tax (.slice U' q cu')).toArray 48))
      refine (CS.out _ B6.out).mono ?_
      rintro e w7 ⟨rfl, hb7⟩
      have B7 := Lib.hid (B6.out.trans (hb7.mono B6.out.size))
      have NB7 := Lib.hid (NB6.out.below B7.out)
      have ND7 := Lib.hid (ND.out.below B7.out)
      have NX7 := Lib.hid (NXC.out.below (K6.out.trans (B7.out.mono K6.out.size)))
      have NV7 := Lib.hid (NVC.out.below (K6.out.trans (B7.out.mono K6.out.size)))
      obtain ⟨Ad, cd, kd, _, _, had⟩ := ND7.out.seen IV'.out
      obtain ⟨Ax, cx, kx, _, _, hax⟩ := NX7.out.seen IV.out
      have HD7 := Lib.hid had
      have HX7 := Lib.hid hax
      have CX := Lib.hid kx
      have CDD := Lib.hid kd
      have J10 := Lib.hid (below_drew w7)
      clear CS hb7 B6 B7 NB6 ND NB NXC NVC K6 K5 z0 z1 z2 z3 z4 z5 z6 z7 HA1 HAT H5 had hax
      go_wp2_with fail
      go_region_held3 (fun w' => w'.cell? ⟨sbd, 0, none⟩ = some (.slice Ad n' cd) ∧ w'.cell? ⟨sbx, 0, none⟩ = some (.slice Ax n cx)) (first | go_keep) (first | (go_at_call 11; (with_reducible refine (pvrows (NB7.out.below J10.out) IV'.out.is).mono ?_); rintro e w11 ⟨A11, c11, rfl, _, _, ho11, hb11⟩; have J11 := Lib.hid (J10.out.trans (hb11.mono J10.out.size)); obtain ⟨_, _, e11, _, _, _, hat11⟩ := ho11.at ve_len; injection e11 with e11 _ _; subst e11; have AT11 := Lib.hid hat11; have kx11 := cell_keep CX.out J11.out; have kd11 := cell_keep CDD.out J11.out; clear ho11 hb11 hat11) | (go_at_call 22; (with_reducible refine (vsame_true _ _ _ _ _ _ _ _ AT11.out (HD7.out.below J11.out) (by have := IV.out.le; have := IV'.out.le; omega) (fun _ _ => rfl)).mono ?_); rintro e w12 ⟨rfl, hb12⟩; have J12 := Lib.hid (J11.out.trans (hb12.mono J11.out.size)); have kx12 := cell_keep CX.out J12.out; have kd12 := cell_keep CDD.out J12.out; clear hb12) | (go_at_call 11; (with_reducible refine (pvrows (NV7.out.below J12.out) IV.out.is).mono ?_); rintro e w13 ⟨A13, c13, rfl, _, _, ho13, hb13⟩; have J13 := Lib.hid (J12.out.trans (hb13.mono J12.out.size)); obtain ⟨_, _, e13, _, _, _, hat13⟩ := ho13.at ve_len; injection e13 with e13 _ _; subst e13; have AT13 := Lib.hid hat13; have kx13 := cell_keep CX.out J13.out; have kd13 := cell_keep CDD.out J13.out; clear ho13 hb13 hat13) | (go_at_call 22; (with_reducible refine (vsame_true _ _ _ _ _ _ _ _ AT13.out (HX7.out.below J13.out) (by have := IV.out.le; have := IV'.out.le; omega) (fun _ _ => rfl)).mono ?_); rintro e w14 ⟨rfl, hb14⟩; have J14 := Lib.hid (J13.out.trans (hb14.mono J13.out.size)); have kx14 := cell_keep CX.out J14.out; have kd14 := cell_keep CDD.out J14.out; clear hb14) | (go_at_call 12; (with_reducible refine (W.out _).mono ?_); rintro e w15 ⟨rfl, hb15⟩; have J15 := Lib.hid (J14.out.trans (hb15.mono J14.out.size)); have kx15 := cell_keep CX.out J15.out; have kd15 := cell_keep CDD.out J15.out; clear hb15))
      go_wp2
      go_ret
      exact ⟨rfl, (NX7.out.below J15.out).low⟩
end Go.Proofs.Ytmeljcogoeghaaa
