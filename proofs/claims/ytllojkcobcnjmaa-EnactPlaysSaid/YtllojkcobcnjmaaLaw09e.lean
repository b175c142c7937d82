/- EnactPlays: its walk. -/
import Derived.Test.YtllojkcobcnjmaaLaw09c
import Derived.Test.YtllojkcobcnjmaaREnact
import Derived.WalkKit
import Derived.WalkSpells
import Derived.WalkLawsBesides
import Derived.Lib.Hide
import Derived.IntWalk
import Derived.Laws.StructEq
import Derived.Deep.LoopGhost
import Derived.Deep.QuietTactic
import Derived.BigQuiet
import Derived.Deep.RegionHeld3
import Derived.Deep.RegionLaw
import Derived.Deep.DeepCutAuto
import Derived.Deep.CutBlock
namespace Go.Proofs.Ytllojkcobcnjmaa
open Go.RowKit

/-- how many rates, and which, behind an answer -/
def nx (e : Int) (n : Nat) : Nat := if e = 0 then n + 1 else n
def pt (e : Int) (R : Nat → Rt) (n : Nat) (x : Rt) : Nat → Rt := if e = 0 then pushT R n x else R
section
variable {w0 w w1 : World} {O O1 : Nat → Nat} {t t' sb n : Nat} {R : Nat → Rt} {E : TypeId}
theorem nadd_e (h : NowT 31 w0 w O t sb n R) (ht : t ≠ 0) (x : Rt) (e : Int) (he : TErr R n x.j x.y x.r x.p e) :
    Calls Try.prog 9 #[ptr sb, .string x.j, .int .i64 x.y, .int .i64 x.r, .int .i64 x.p] w fun e' w' => e' = .returned (.int .i64 e) ∧ ∃ O', NowT 31 w0 w' O' t sb (nx e n) (pt e R n x) ∧ Step w0.heap.size O t w O' w' := by
  by_cases h0 : e = 0
  · subst h0
    exact nadd_ok h ht x he
  · refine (nadd_no h x e he h0).mono ?_
    rintro e' w' ⟨rfl, b⟩
    refine ⟨rfl, O, ?_, Step.of_below h.fin b⟩
    unfold nx pt
    rw [if_neg h0, if_neg h0]
    exact h.below b
theorem madd_e (h : NowT 46 w0 w O t sb n R) (ht : t ≠ 0) (x : Rt) (e : Int) (he : TErr R n x.j x.y x.r x.p e) :
    Calls Try.prog 16 #[ptr sb, .string x.j, .int .i64 x.y, .int .i64 x.r, .int .i64 x.p] w fun e' w' => e' = .returned (.int .i64 e) ∧ ∃ O', NowT 46 w0 w' O' t sb (nx e n) (pt e R n x) ∧ Step w0.heap.size O t w O' w' := by
  obtain ⟨v, s⟩ := h.st
  by_cases h0 : e = 0
  · subst h0
    refine (radd_ok s h.fin h.low.size x he).mono ?_
    rintro e w' ⟨rfl, v', O', a, b⟩
    exact ⟨rfl, O', ⟨⟨_, a⟩, b.fin, h.low.trans (b.below h.fin ht h.low.size)⟩, b⟩
  · refine (radd_no s h.fin h.low.size x e he h0).mono ?_
    rintro e' w' ⟨rfl, b⟩
    refine ⟨rfl, O, ?_, Step.of_below h.fin b⟩
    unfold nx pt
    rw [if_neg h0, if_neg h0]
    exact h.below b
theorem mrate (h : NowT 46 w0 w O t sb n R) (j : ByteArray) (y p r : Int) (ok : Bool) (hk : Known R n j y p r ok) :
    Calls Try.prog 17 #[ptr sb, .string j, .int .i64 y, .int .i64 p] w fun e w' => e = .returned (.tuple #[.int .i64 r, .bool ok]) ∧ Below w.heap.size w w' := by
  obtain ⟨v, s⟩ := h.st
  exact rrate_any s j y p r ok hk
end
/-- the places that EnactPlays enacts for, and asks for -/
def jt (j : Nat) : ByteArray := if j = 0 then ⟨#[117, 107]⟩ else if j = 1 then ⟨#[100, 101]⟩ else if j = 2 then ⟨#[]⟩ else ⟨#[117, 107, 50]⟩
def jq (j : Nat) : ByteArray := if j = 0 then ⟨#[117, 107]⟩ else if j = 1 then ⟨#[100, 101]⟩ else if j = 2 then ⟨#[102, 114]⟩ else ⟨#[]⟩
theorem jq_cell (w : World) (t : TypeId) {j : Nat} (hj : j < 4) : (w.alloc (.cells #[.string ⟨#[117, 107]⟩, .string ⟨#[100, 101]⟩, .string ⟨#[102, 114]⟩, .string ⟨#[]⟩] t)).cell? ⟨w.heap.size, j, none⟩ = some (.string (jq j)) := by
  rw [cell_of_row _ w.heap.size j _ t (0, 0) (heap_alloc_new w _)]
  rcases (show j = 0 ∨ j = 1 ∨ j = 2 ∨ j = 3 by omega) with rfl | rfl | rfl | rfl <;> rfl
/-- a rate that is enacted, and the four texts, in new blocks -/
theorem act9_cells (w : World) (j y r p : Int) (raw : Bool) (T U : TypeId) :
    ∃ wl, wl = (w.alloc (.cells #[.int .i64 j, .int .i64 y, .int .i64 r, .int .i64 p, .bool raw] T)).alloc (.cells #[.string ⟨#[117, 107]⟩, .string ⟨#[100, 101]⟩, .string ⟨#[]⟩, .string ⟨#[117, 107, 50]⟩] U) ∧ Below w.heap.size w wl ∧ w.heap.size < wl.heap.size ∧
      (wl.cell? ⟨w.heap.size, 0, none⟩ = some (.int .i64 j) ∧ wl.cell? ⟨w.heap.size, 1, none⟩ = some (.int .i64 y) ∧ wl.cell? ⟨w.heap.size, 2, none⟩ = some (.int .i64 r) ∧ wl.cell? ⟨w.heap.size, 3, none⟩ = some (.int .i64 p) ∧ wl.cell? ⟨w.heap.size, 4, none⟩ = some (.bool raw)) ∧
      ∀ i, i < 4 → wl.cell? ⟨w.heap.size + 1, i, none⟩ = some (.string (jt i)) := by
  have h1 := heap_alloc_new w (.cells #[.int .i64 j, .int .i64 y, .int .i64 r, .int .i64 p, .bool raw] T)
  have z1 : (w.alloc (.cells #[.int .i64 j, .int .i64 y, .int .i64 r, .int .i64 p, .bool raw] T)).heap.size = w.heap.size + 1 := by simp
  have h2 := heap_alloc_new (w.alloc (.cells #[.int .i64 j, .int .i64 y, .int .i64 r, .int .i64 p, .bool raw] T)) (.cells #[.string ⟨#[117, 107]⟩, .string ⟨#[100, 101]⟩, .string ⟨#[]⟩, .string ⟨#[117, 107, 50]⟩] U)
  have h3 := Below.heap_alloc (w.alloc (.cells #[.int .i64 j, .int .i64 y, .int .i64 r, .int .i64 p, .bool raw] T)) (.cells #[.string ⟨#[117, 107]⟩, .string ⟨#[100, 101]⟩, .string ⟨#[]⟩, .string ⟨#[117, 107, 50]⟩] U) w.heap.size (by omega)
  rw [h1] at h3
  rw [z1] at h2
  refine ⟨_, rfl, ((Below.refl _ _).alloc (Nat.le_refl _) _).alloc (by omega) _, by simp; omega, ⟨?_, ?_, ?_, ?_, ?_⟩, fun i hi => ?_⟩
  all_goals first | (rw [cell_of_row _ w.heap.size _ _ T (0, 0) h3]; rfl) | skip
  rw [cell_of_row _ (w.heap.size + 1) i _ U (0, 0) h2]
  rcases (show i = 0 ∨ i = 1 ∨ i = 2 ∨ i = 3 by omega) with rfl | rfl | rfl | rfl <;> rfl
set_option maxHeartbeats 8000000 in
set_option maxRecDepth 100000 in
theorem enactPlays_walk (a0 : Option Addr) (len0 cap0 : Nat) (w : World) (w0 : Acts9 w a0 len0) :
    Calls Try.prog 5 #[.slice a0 len0 cap0] w fun e w' => e = .returned (.bool true) ∧ Below w.heap.size w w' := by
  have HA := Lib.hid w0
  clear w0
  go_enter Try.func5, Try.ntmps5
  go_wp2_with fail
  refine (enew_any _).mono ?_
  rintro e w1 ⟨rfl, rfl⟩
  obtain ⟨nw, _⟩ := nowt_new w w (fun _ => 0) (Fin0.zero _ _) (Below.refl _ _) 31 53 1 rno
  obtain ⟨wa, hwa⟩ : ∃ wa, w.alloc (.cells #[.slice none 0 0] 53) = wa := ⟨_, rfl⟩
  rw [hwa] at nw ⊢
  go_upto_block 0 with fail
  obtain ⟨nb, sb⟩ := nowt_new w wa _ nw.fin nw.low 46 44 2 rno
  have NA := Lib.hid (nw.step (sb 4) (by decide) (by decide))
  have NB := Lib.hid nb
  have ab : Hid (w.heap.size < wa.heap.size) := Lib.hid (by rw [← hwa]; simp)
  clear nw nb sb hwa
  go_cut [5] (fun _ wx => ∃ (n : Nat) (R : Nat → Rt) (O : Nat → Nat), NowT 31 w wx O 1 w.heap.size n R ∧ NowT 46 w wx O 2 wa.heap.size n R)
  case first =>
    go_wp2
    go_loopg [5] 28 (fun gh i wr => ∃ (k n : Nat) (R : Nat → Rt) (O : Nat → Nat), k ≤ 28 ∧ gh = 28 - k ∧ i = .int .i64 k ∧ NowT 31 w wr O 1 w.heap.size n R ∧ NowT 46 w wr O 2 wa.heap.size n R)
    case atStart => exact ⟨0, 0, _, _, by omega, rfl, rfl, NA.out, NB.out⟩
    case round =>
      obtain ⟨k, n, R, O, hk, hgk, rfl, hn1, hn2⟩ := hrel
      have HGK := Lib.hid hgk
      have N1 := Lib.hid hn1
      have N2 := Lib.hid hn2
      clear hgk hn1 hn2 NA NB
      by_cases hlt : k < len0 ∧ k < 28
      · obtain ⟨l0, l1⟩ := hlt
        obtain ⟨b, off, j, y, r, p, raw, rfl, hb, ha⟩ := HA.out.some l0
        replace ha := ha.below N1.out.low
        obtain ⟨d0, d1, d2, d3, d4, _⟩ := ha
        have e28 : decide ((k : Int) < 28) = true := by simp; omega
        go_wp2_with fail
        refine (within_some _ _ _ (by omega) (by omega)).mono ?_
        rintro e w' ⟨x, x1, x2, rfl, rfl⟩
        obtain ⟨wl, hwl, kl, zl, ⟨q0, q1, q2, q3, q4⟩, hjt⟩ := act9_cells wr j y r p raw 39 9
        rw [← hwl]
        obtain ⟨i, hi4, hi⟩ : ∃ i : Nat, i < 4 ∧ Int.tmod x 4 = i := ⟨(x % 4).toNat, by omega, by rw [Int.tmod_eq_emod_of_nonneg x1]; omega⟩
        have ci := hjt i hi4
        replace N1 := Lib.hid (N1.out.below kl)
        replace N2 := Lib.hid (N2.out.below kl)
        obtain ⟨X, hX⟩ : ∃ X, wr.heap.size = X := ⟨_, rfl⟩
        rw [hX] at ci q0 q1 q2 q3 q4 zl ⊢
        clear d0 d1 d2 d3 d4 hwl hX kl hjt
        have i1 : (0 : Int) ≤ (i : Int) := by omega
        have i2 : (i : Int) < 4 := by omega
        obtain ⟨J, hJ⟩ : ∃ J, jt i = J := ⟨_, rfl⟩
        rw [hJ] at ci
        clear hJ
        go_wp2
        clear ci
        have hdr : Below wl.heap.size wl wl.drew := below_drew wl
        go_region_held3 (fun w' => w'.cell? ⟨X, 1, none⟩ = some (.int .i64 y) ∧ w'.cell? ⟨X, 2, none⟩ = some (.int .i64 r) ∧ w'.cell? ⟨X, 3, none⟩ = some (.int .i64 p)) (first | go_keep) (first | (go_at_call 11; (with_reducible refine (within_any _ _ _ (by omega) (by omega)).mono ?_); rintro e w' ⟨rfl, rfl⟩) | (go_at_call 14; (refine (rate_some _ _).mono ?_); rintro e w5 ⟨z, rfl, hb5⟩; have g1 := cell_keep (w := wl.drew) q1 hb5; have g2 := cell_keep (w := wl.drew) q2 hb5; have g3 := cell_keep (w := wl.drew) q3 hb5; have g4 := cell_keep (w := wl.drew) q4 hb5; have HB5 := Lib.hid (hdr.trans hb5); clear hb5))
        replace N1 := Lib.hid (N1.out.below HB5.out)
        replace N2 := Lib.hid (N2.out.below HB5.out)
        clear q0 q1 q2 q3 q4 hdr HB5 zl
        go_upto_if 58 with fail
        go_cut [8, 9, 10] (fun s8 s9 s10 wx => ∃ y' r' p' : Int, s8 = .int .i64 y' ∧ s9 = .int .i64 r' ∧ s10 = .int .i64 p' ∧ Below w5.heap.size w5 wx)
        case first =>
          cases raw
          · go_wp2
            go_meet
            exact ⟨_, _, _, rfl, rfl, rfl, Below.refl _ _⟩
          · go_wp2
            go_big_quiet (fail)
            go_wp2
            go_meet
            exact ⟨_, _, _, rfl, rfl, rfl, drewN_below _ _ _⟩
        case rest =>
          obtain ⟨y', r', p', rfl, rfl, rfl, hb6⟩ := hcut
          replace N1 := Lib.hid (N1.out.below hb6)
          replace N2 := Lib.hid (N2.out.below hb6)
          clear hb6 g1 g2 g3 g4
          go_upto_if 66 with fail
          go_cut [11] (fun _ wx => ∃ O' : Nat → Nat, NowT 31 w wx O' 1 w.heap.size n R ∧ NowT 46 w wx O' 2 wa.heap.size n R)
          case first =>
            by_cases h9 : k = 9
            · have e9 : ((k : Int) == 9) = true := by simp; omega
              clear h9
              go_wp2_with fail
              refine (nclone N1.out 3).mono ?_
              rintro e w6 ⟨cb, O6, rfl, n6, s6⟩
              have C6 := Lib.hid n6
              replace N1 := Lib.hid (N1.out.step (s6 4) (by decide) (by decide))
              replace N2 := Lib.hid (N2.out.step (s6 4) (by decide) (by decide))
              clear n6 s6
              go_wp2_with fail
              refine (nadd_is C6.out (by decide) ⟨⟨#[117, 107]⟩, 0, 77, 0⟩).mono ?_
              rintro e w7 ⟨q7, b7, m7, S7, O7, rfl, _, n7, s7, _, _⟩
              have C7 := Lib.hid n7
              replace N1 := Lib.hid (N1.out.step s7 (by decide) (by decide))
              replace N2 := Lib.hid (N2.out.step s7 (by decide) (by decide))
              clear n7 s7 C6
              go_wp2_with fail
              refine (nadd_is C7.out (by decide) ⟨⟨#[122, 122]⟩, 0, 77, 0⟩).mono ?_
              rintro e w8 ⟨q8, b8, m8, S8, O8, rfl, _, n8, s8, _, _⟩
              replace N1 := Lib.hid (N1.out.step s8 (by decide) (by decide))
              replace N2 := Lib.hid (N2.out.step s8 (by decide) (by decide))
              clear n8 s8 C7
              go_wp2
              go_meet
              exact ⟨O8, N1.out, N2.out⟩
            · have e9 : ((k : Int) == 9) = false := by simp; omega
              clear h9
              go_wp2
              go_meet
              exact ⟨O, N1.out, N2.out⟩
          case rest =>
            clear N1 N2
            obtain ⟨O', hn1, hn2⟩ := hcut
            obtain ⟨e0, he0⟩ := terr_any hn1.inv.le J y' r' p'
            have CA := Lib.hid (nadd_e hn1 (by decide) ⟨J, y', r', p'⟩ e0 he0)
            have HE := Lib.hid he0
            have N2 := Lib.hid hn2
            clear hn1 hn2 he0
            go_wp2_with fail
            refine (CA.out).mono ?_
            rintro e w6 ⟨rfl, O6, n6, s6⟩
            have N1 := Lib.hid n6
            have CB := Lib.hid (madd_e (N2.out.step s6 (by decide) (by decide)) (by decide) ⟨J, y', r', p'⟩ e0 HE.out)
            clear n6 s6 CA N2
            go_wp2_with fail
            refine (CB.out).mono ?_
            rintro e w7 ⟨rfl, O7, n7, s7⟩
            have N2 := Lib.hid n7
            replace N1 := Lib.hid (N1.out.step s7 (by decide) (by decide))
            have ee : (e0 != e0) = false := by simp
            clear n7 s7 CB
            go_wp2
            go_roundg (28 - (k + 1))
            case measure => have := HGK.out; omega
            case rel => exact ⟨k + 1, _, _, O7, by omega, rfl, by go_num, N1.out, N2.out⟩
      · rcases (show ¬ k < len0 ∨ (k < len0 ∧ ¬ k < 28) by omega) with hq | ⟨hq1, hq⟩
        all_goals
          clear hlt
          go_wp2
          go_meet
          exact ⟨n, R, O, N1.out, N2.out⟩
  case rest =>
    obtain ⟨n, R, O, hn1, hn2⟩ := hcut
    have N1 := Lib.hid hn1
    have N2 := Lib.hid hn2
    have hn := hn1.inv.le
    clear hn1 hn2 NA NB
    go_wp2_with fail
    refine (nrows N1.out).mono ?_
    rintro e wb ⟨A, c, rfl, h1, h2, ho, hb⟩
    replace N1 := Lib.hid (N1.out.below hb)
    replace N2 := Lib.hid (N2.out.below hb)
    obtain ⟨A', c', e', _, _, _, har⟩ := ho.at re_len
    injection e' with e1 _ e3
    subst e1 e3
    have HR := Lib.hid har
    obtain ⟨v2, s2⟩ := N2.out.st
    have t0 := s2.hd.c0
    have tl := s2.hd.lt
    obtain ⟨A2, c2, rfl, h3, h4, _, hdr⟩ := s2.at
    have HD := Lib.hid hdr
    have ee : ((n : Int) != (n : Int)) = false := by simp
    clear hb ho har s2 hdr
    go_upto_block 2 with fail
    go_cut [100] (fun _ wx => Below wb.heap.size wb wx)
    case first =>
      go_wp2
      go_loopg [100] n (fun gh i wr => ∃ k : Nat, k ≤ n ∧ gh = n - k ∧ i = .int .i64 k ∧ Below wb.heap.size wb wr)
      case atStart => exact ⟨0, by omega, rfl, rfl, Below.refl _ _⟩
      case round =>
        obtain ⟨k, hk, hgk, rfl, hbw⟩ := hrel
        have HGK := Lib.hid hgk
        have HB := Lib.hid hbw
        have u0 := cell_keep t0 hbw
        clear hgk hbw
        by_cases hlt : k < n
        · obtain ⟨b, off, rfl, hb, c0, c1, c2, c3⟩ := (HR.out.below HB.out).four hlt
          obtain ⟨b', off', rfl, hb', c0', c1', c2', c3'⟩ := (HD.out.below HB.out).four hlt
          have z0 := (bytes_is (R k).j (R k).j).2 rfl
          have k0 : (0 : Int) ≤ (k : Int) := by omega
          have k1 : (k : Int) < (n : Int) := by omega
          go_wp2
          go_big_quiet (fail)
          go_wp2
          go_roundg (n - (k + 1))
          case measure => have := HGK.out; omega
          case rel => exact ⟨k + 1, by omega, rfl, by go_num, below_drewN HB.out _⟩
        · obtain rfl : k = n := by omega
          clear hlt
          go_wp2
          go_meet
          exact HB.out
    case rest =>
      replace N1 := Lib.hid (N1.out.below hcut)
      replace N2 := Lib.hid (N2.out.below hcut)
      clear HR HD t0 tl ee hcut
      have JC := Lib.hid fun (j : Nat) (hj : j < 4) => jq_cell wc 9 hj
      have BA := (Below.refl wc.heap.size wc).alloc (Nat.le_refl _) (.cells #[.string ⟨#[117, 107]⟩, .string ⟨#[100, 101]⟩, .string ⟨#[102, 114]⟩, .string ⟨#[]⟩] 9)
      have BZ : wc.heap.size < (wc.alloc (.cells #[.string ⟨#[117, 107]⟩, .string ⟨#[100, 101]⟩, .string ⟨#[102, 114]⟩, .string ⟨#[]⟩] 9)).heap.size := by simp
      replace N1 := Lib.hid (N1.out.below BA)
      replace N2 := Lib.hid (N2.out.below BA)
      clear BA
      obtain ⟨wd, hwd⟩ : ∃ wd, wc.alloc (.cells #[.string ⟨#[117, 107]⟩, .string ⟨#[100, 101]⟩, .string ⟨#[102, 114]⟩, .string ⟨#[]⟩] 9) = wd := ⟨_, rfl⟩
      go_wp2
      rw [hwd] at JC N1 N2 BZ
      (try rw [hwd])
      replace BZ := Lib.hid BZ
      clear hwd
      go_loopg [118] 4 (fun gh i wr => ∃ k : Nat, k ≤ 4 ∧ gh = 4 - k ∧ i = .int .i64 k ∧ Below wd.heap.size wd wr)
      case atStart => exact ⟨0, by omega, rfl, rfl, Below.refl _ _⟩
      case round =>
        obtain ⟨k, hk, hgk, rfl, hbw⟩ := hrel
        have HGK := Lib.hid hgk
        have HB := Lib.hid hbw
        clear hgk hbw
        by_cases hlt : k < 4
        · have e4 : decide ((k : Int) < 4) = true := by simp; omega
          have ck := (HB.out.cell (p := ⟨wc.heap.size, k, none⟩) BZ.out).trans (JC.out k hlt)
          obtain ⟨J, hJ⟩ : ∃ J, jq k = J := ⟨_, rfl⟩
          rw [hJ] at ck
          clear hJ
          go_wp2
          clear ck
          obtain ⟨wo, rfl⟩ : ∃ wo, wo = wr := ⟨_, rfl⟩
          go_loopg [16] 9 (fun gh i wr => ∃ y : Int, -1 ≤ y ∧ y ≤ 8 ∧ gh = (8 - y).toNat ∧ i = .int .i64 y ∧ Below wd.heap.size wd wr)
          case atStart => exact ⟨-1, by omega, by omega, rfl, rfl, HB.out⟩
          case round =>
            obtain ⟨y, y1, y2, hgy, rfl, hbw⟩ := hrel
            have HGY := Lib.hid hgy
            have HB2 := Lib.hid hbw
            clear hgy hbw HB
            by_cases hly : y < 8
            · have e8 : decide (y < 8) = true := by simpa using hly
              have ew1 : IntKind.i64.wrap (y + 1) = y + 1 := IntWalk.i64_in _ (by omega)
              go_wp2
              obtain ⟨wo, rfl⟩ : ∃ wo, wo = wr := ⟨_, rfl⟩
              go_loopg [17] 12 (fun gh i wr => ∃ p : Int, -1 ≤ p ∧ p ≤ 11 ∧ gh = (11 - p).toNat ∧ i = .int .i64 p ∧ Below wd.heap.size wd wr)
              case atStart => exact ⟨-1, by omega, by omega, rfl, rfl, HB2.out⟩
              case round =>
                obtain ⟨p, p1, p2, hgp, rfl, hbw⟩ := hrel
                have HGP := Lib.hid hgp
                have HB3 := Lib.hid hbw
                clear hgp hbw HB2
                by_cases hlp : p < 11
                · have e11 : decide (p < 11) = true := by simpa using hlp
                  have ew2 : IntKind.i64.wrap (p + 1) = p + 1 := IntWalk.i64_in _ (by omega)
                  obtain ⟨q, ok, hk⟩ := known_any R n J y p
                  have C6 := Lib.hid (nrate (N1.out.below HB3.out) J y p q ok hk)
                  have C7 := Lib.hid fun w1 (h : Below wd.heap.size wd w1) => mrate (N2.out.below h) J y p q ok hk
                  clear hk
                  go_wp2_with fail
                  refine (C6.out).mono ?_
                  rintro e w6 ⟨rfl, hb6⟩
                  have C8 := Lib.hid (C7.out w6 (HB3.out.trans (hb6.mono HB3.out.size)))
                  have HB4 := Lib.hid (HB3.out.trans (hb6.mono HB3.out.size))
                  clear hb6 C6 C7
                  go_wp2_with fail
                  refine (C8.out).mono ?_
                  rintro e w7 ⟨rfl, hb7⟩
                  have HB5 := Lib.hid (HB4.out.trans (hb7.mono HB4.out.size))
                  clear hb7 C8 HB4
                  have e1 : (q != q) = false := by simp
                  have e2 : (ok != ok) = false := by simp
                  go_wp2
                  go_roundg (11 - (p + 1)).toNat
                  case measure => have := HGP.out; omega
                  case rel => exact ⟨p + 1, by omega, by omega, rfl, by go_num, HB5.out⟩
                · obtain rfl : p = 11 := by omega
                  clear hlp
                  go_wp2
                  go_roundg (8 - (y + 1)).toNat
                  case measure => have := HGY.out; omega
                  case rel => exact ⟨y + 1, by omega, by omega, rfl, by go_num, HB3.out⟩
            · obtain rfl : y = 8 := by omega
              clear hly
              go_wp2
              go_roundg (4 - (k + 1))
              case measure => have := HGK.out; omega
              case rel => exact ⟨k + 1, by omega, rfl, by go_num, HB2.out⟩
        · obtain rfl : k = 4 := by omega
          clear hlt
          have L1 := Lib.hid (N1.out.below HB.out).low
          go_wp2_with fail
          refine (wakes9_any _).mono ?_
          rintro e w8 ⟨rfl, hb⟩
          have L8 := Lib.hid (L1.out.trans (hb.mono L1.out.size))
          clear hb
          go_wp2
          go_ret
          exact ⟨rfl, L8.out⟩
end Go.Proofs.Ytllojkcobcnjmaa
