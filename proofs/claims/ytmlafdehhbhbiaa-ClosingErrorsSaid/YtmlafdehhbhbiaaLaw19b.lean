/- ClosingErrors: its walk. -/
import Derived.Test.YtmlafdehhbhbiaaLaw19a
import Derived.Test.YtmlafdehhbhbiaaM2
namespace Go.Proofs.Ytmlafdehhbhbiaa
open Go.RowKit
/-- the nine cells of a try -/
def e19 (x : MIn × Int) : List Value := [.string x.1.j, .int .i64 x.1.p, .int .i64 x.1.bk, .int .i64 x.1.pm, .int .i64 x.1.jd, .int .i64 x.1.cp, .int .i64 x.1.lf, .int .i64 x.1.tu, .int .i64 x.2]
def l19 (n : Int) : List Value := [.string ⟨#[117, 107]⟩, .int .i64 (-1), .int .i64 0, .int .i64 0, .int .i64 0, .int .i64 0, .int .i64 0, .int .i64 0, .int .i64 1, .string ⟨#[117, 107]⟩, .int .i64 400, .int .i64 0, .int .i64 0, .int .i64 0, .int .i64 0, .int .i64 0, .int .i64 0, .int .i64 1, .string ⟨#[117, 107]⟩, .int .i64 0, .int .i64 0, .int .i64 0, .int .i64 (-n), .int .i64 0, .int .i64 0, .int .i64 0, .int .i64 1, .string ⟨#[117, 107]⟩, .int .i64 0, .int .i64 0, .int .i64 0, .int .i64 0, .int .i64 0, .int .i64 0, .int .i64 (100000000000 + n), .int .i64 1, .string ⟨#[102, 114]⟩, .int .i64 0, .int .i64 0, .int .i64 0, .int .i64 0, .int .i64 0, .int .i64 0, .int .i64 0, .int .i64 7, .string ⟨#[100, 101]⟩, .int .i64 2, .int .i64 0, .int .i64 0, .int .i64 0, .int .i64 0, .int .i64 0, .int .i64 0, .int .i64 7, .string ⟨#[100, 101]⟩, .int .i64 16, .int .i64 0, .int .i64 0, .int .i64 0, .int .i64 0, .int .i64 0, .int .i64 0, .int .i64 7, .string ⟨#[100, 101]⟩, .int .i64 20, .int .i64 0, .int .i64 0, .int .i64 0, .int .i64 0, .int .i64 0, .int .i64 0, .int .i64 0, .string ⟨#[117, 107]⟩, .int .i64 0, .int .i64 (100000000000 + n), .int .i64 0, .int .i64 0, .int .i64 0, .int .i64 0, .int .i64 0, .int .i64 6, .string ⟨#[117, 107]⟩, .int .i64 0, .int .i64 100000000000, .int .i64 n, .int .i64 0, .int .i64 0, .int .i64 0, .int .i64 0, .int .i64 6, .string ⟨#[117, 107]⟩, .int .i64 0, .int .i64 0, .int .i64 0, .int .i64 0, .int .i64 (-1), .int .i64 0, .int .i64 0, .int .i64 1, .string ⟨#[117, 107]⟩, .int .i64 0, .int .i64 0, .int .i64 0, .int .i64 0, .int .i64 0, .int .i64 (-1), .int .i64 0, .int .i64 1, .string ⟨#[117, 107]⟩, .int .i64 0, .int .i64 100000000000, .int .i64 0, .int .i64 0, .int .i64 0, .int .i64 0, .int .i64 100000000000, .int .i64 6, .string ⟨#[117, 107]⟩, .int .i64 0, .int .i64 n, .int .i64 0, .int .i64 0, .int .i64 0, .int .i64 0, .int .i64 (-n), .int .i64 0]
theorem e19_len (x : MIn × Int) : (e19 x).length = 9 := rfl
set_option maxRecDepth 100000 in
theorem l19_is (n : Int) : l19 n = rl e19 (p19 n) 14 := rfl
set_option maxRecDepth 100000 in
theorem l19_at (n : Int) (k : Nat) (hk : k < 14) (i : Nat) (u : Value) (hu : (e19 (p19 n k))[i]? = some u) : (l19 n)[k * 9 + i]? = some u := by
  have hi : i < 9 := (List.getElem?_eq_some_iff.1 hu).1
  rw [l19_is, rl_get e19_len hk hi]; exact hu
theorem terr19 : TErr (R1of 250000) 1 ⟨#[100, 101]⟩ 5 1 3 0 := .ok (by unfold ROk; exact ⟨by decide, by decide, by decide, by decide, by decide, by decide, by decide⟩) (fun ⟨k, hk, h, _⟩ => by
  obtain rfl : k = 0 := by omega
  exact absurd h (by decide)) (by decide)
/-- a row of a block that was laid, written whole -/
theorem set_cells {w : World} {g : Nat} {old P : Array Value} {t : TypeId} (hg : w.heap[g]? = some (.cells old t (0, 0))) {j : Nat} {u : Value} (h : P[j]? = some u) : (w.setRow g P).cell? ⟨g, j, none⟩ = some u := by
  rw [cell_setRow_same _ _ _ _ _ _ _ hg]; exact h
theorem set_far {w : World} {g b o : Nat} {P : Array Value} {u : Value} (h : w.cell? ⟨b, o, none⟩ = some u) (hne : b ≠ g) : (w.setRow g P).cell? ⟨b, o, none⟩ = some u := by
  rw [cell_setRow_other _ _ _ _ hne]; exact h
set_option maxHeartbeats 32000000 in
set_option maxRecDepth 100000 in
theorem closingErrors_walk (a0 : Int) (w : World) :
    Calls Try.prog 3 #[.int .i64 a0] w fun e w' => e = .returned (.bool true) ∧ Below w.heap.size w w' := by
  have W := Lib.hid fun w => wakes19_any w
  obtain ⟨n, hn⟩ : ∃ n, a0 % 1000 + 1 = n := ⟨_, rfl⟩
  have E1 := Lib.hid (show a0 % 1000 = n - 1 by omega)
  have f1 : 1 + (n - 1) = n := by omega
  have bn : 1 ≤ n ∧ n ≤ 1000 := by omega
  have BN := Lib.hid bn
  have CF := Lib.hid (lfresh w 250000 (by decide))
  clear hn
  go_enter Try.func3, Try.ntmps3
  go_wp2_with fail
  refine (CF.out).mono ?_
  rintro e w1 ⟨tb, rb, lb, O, rfl, nt, np, nv⟩
  have P1 := Lib.hid np
  have V1 := Lib.hid nv
  have CA := Lib.hid (nadd_ok nt (by decide) ⟨⟨#[100, 101]⟩, 5, 1, 3⟩ terr19)
  clear nt np nv CF
  go_wp2_with fail
  refine (CA.out).mono ?_
  rintro e w2 ⟨rfl, O2, n2, st⟩
  have P2 := Lib.hid (P1.out.step st (by decide) (by decide))
  have V2 := Lib.hid (V1.out.step st (by decide) (by decide))
  have N2 := Lib.hid (show NowT 57 w w2 O2 1 tb 2 R19 from n2)
  clear n2 st CA P1 V1
  have R5 := Lib.hid (rec_lit w2 (l19 n) 32 w2.heap.size rfl)
  have K5 := Lib.hid (show Below w2.heap.size w2 (w2.alloc (.cells #[.string ⟨#[117, 107]⟩, .int .i64 (-1), .int .i64 0, .int .i64 0, .int .i64 0, .int .i64 0, .int .i64 0, .int .i64 0, .int .i64 1, .string ⟨#[117, 107]⟩, .int .i64 400, .int .i64 0, .int .i64 0, .int .i64 0, .int .i64 0, .int .i64 0, .int .i64 0, .int .i64 1, .string ⟨#[117, 107]⟩, .int .i64 0, .int .i64 0, .int .i64 0, .int .i64 (-n), .int .i64 0, .int .i64 0, .int .i64 0, .int .i64 1, .string ⟨#[117, 107]⟩, .int .i64 0, .int .i64 0, .int .i64 0, .int .i64 0, .int .i64 0, .int .i64 0, .int .i64 (100000000000 + n), .int .i64 1, .string ⟨#[102, 114]⟩, .int .i64 0, .int .i64 0, .int .i64 0, .int .i64 0, .int .i64 0, .int .i64 0, .int .i64 0, .int .i64 7, .string ⟨#[100, 101]⟩, .int .i64 2, .int .i64 0, .int .i64 0, .int .i64 0, .int .i64 0, .int .i64 0, .int .i64 0, .int .i64 7, .string ⟨#[100, 101]⟩, .int .i64 16, .int .i64 0, .int .i64 0, .int .i64 0, .int .i64 0, .int .i64 0, .int .i64 0, .int .i64 7, .string ⟨#[100, 101]⟩, .int .i64 20, .int .i64 0, .int .i64 0, .int .i64 0, .int .i64 0, .int .i64 0, .int .i64 0, .int .i64 0, .string ⟨#[117, 107]⟩, .int .i64 0, .int .i64 (100000000000 + n), .int .i64 0, .int .i64 0, .int .i64 0, .int .i64 0, .int .i64 0, .int .i64 6, .string ⟨#[117, 107]⟩, .int .i64 0, .int .i64 100000000000, .int .i64 n, .int .i64 0, .int .i64 0, .int .i64 0, .int .i64 0, .int .i64 6, .string ⟨#[117, 107]⟩, .int .i64 0, .int .i64 0, .int .i64 0, .int .i64 0, .int .i64 (-1), .int .i64 0, .int .i64 0, .int .i64 1, .string ⟨#[117, 107]⟩, .int .i64 0, .int .i64 0, .int .i64 0, .int .i64 0, .int .i64 0, .int .i64 (-1), .int .i64 0, .int .i64 1, .string ⟨#[117, 107]⟩, .int .i64 0, .int .i64 100000000000, .int .i64 0, .int .i64 0, .int .i64 0, .int .i64 0, .int .i64 100000000000, .int .i64 6, .string ⟨#[117, 107]⟩, .int .i64 0, .int .i64 n, .int .i64 0, .int .i64 0, .int .i64 0, .int .i64 0, .int .i64 (-n), .int .i64 0] 32)) from (Below.refl _ _).alloc (Nat.le_refl _) _)
  have ER := Lib.hid (fun k hk => errs19 (g := fun _ => ⟨0, 0, 0⟩) (gl := fun _ => ⟨0, 0, 0⟩) BN.out k hk)
  have AT := Lib.hid (fun k hk => l19_at n k hk)
  go_wp2_with (go_at_call 7; (with_reducible refine (within_at _ _ _ _ (by omega) (by omega) E1).mono ?_); rintro e w' ⟨rfl, rfl⟩)
  go_loopg [68] 14 (fun gh i w6 => ∃ k : Nat, k ≤ 14 ∧ gh = 14 - k ∧ i = .int .i64 k ∧ Below w2.heap.size w2 w6 ∧ Below (w2.alloc (.cells (l19 n).toArray 32)).heap.size (w2.alloc (.cells (l19 n).toArray 32)) w6)
  case atStart => exact ⟨0, Nat.zero_le _, rfl, rfl, K5.out, Below.refl _ _⟩
  case round =>
    obtain ⟨k, hk, hgk, rfl, hb6, hc6⟩ := hrel
    have HGK := Lib.hid hgk
    have K6 := Lib.hid hb6
    have C6 := Lib.hid hc6
    clear hgk hb6 hc6 K5 f1
    by_cases hlt : k < 14
    · have hcase := ER.out k hlt
      have cc := fun i u hu => cell_keep (R5.out (k * 9 + i) u (AT.out k hlt i u hu)) C6.out
      obtain ⟨pe, hpe⟩ : ∃ pe, p19 n k = pe := ⟨_, rfl⟩
      rw [hpe] at cc hcase
      obtain ⟨⟨j, p, bk, pm, jd, cp, lf, tu⟩, er⟩ := pe
      unfold No19 Yes19 at hcase
      dsimp only at hcase
      have c0 := cc 0 _ rfl
      have c1 := cc 1 _ rfl
      have c2 := cc 2 _ rfl
      have c3 := cc 3 _ rfl
      have c4 := cc 4 _ rfl
      have c5 := cc 5 _ rfl
      have c6 := cc 6 _ rfl
      have c7 := cc 7 _ rfl
      have c8 := cc 8 _ rfl
      rw [Nat.add_zero] at c0
      dsimp only at c0 c1 c2 c3 c4 c5 c6 c7 c8
      have RX := rec_lit wr [.string j, .int .i64 p, .int .i64 bk, .int .i64 pm, .int .i64 jd, .int .i64 cp, .int .i64 lf, .int .i64 tu, .int .i64 er] 32 wr.heap.size rfl
      have ba := ((Below.refl wr.heap.size wr).alloc (Nat.le_refl _) (.cells #[.string j, .int .i64 p, .int .i64 bk, .int .i64 pm, .int .i64 jd, .int .i64 cp, .int .i64 lf, .int .i64 tu, .int .i64 er] 32)).drew
      have BA := Lib.hid ba
      have NX := Lib.hid ((N2.out.below K6.out).below ba)
      have PX := Lib.hid ((P2.out.below K6.out).below ba)
      have VX := Lib.hid ((V2.out.below K6.out).below ba)
      obtain ⟨wd, hwd⟩ : ∃ wd, (wr.alloc (.cells #[.string j, .int .i64 p, .int .i64 bk, .int .i64 pm, .int .i64 jd, .int .i64 cp, .int .i64 lf, .int .i64 tu, .int .i64 er] 32)).drew = wd := ⟨_, rfl⟩
      have x0 : wd.cell? ⟨wr.heap.size, 0, none⟩ = some (.string j) := by rw [← hwd]; exact RX 0 _ rfl
      have x1 : wd.cell? ⟨wr.heap.size, 1, none⟩ = some (.int .i64 p) := by rw [← hwd]; exact RX 1 _ rfl
      have x2 : wd.cell? ⟨wr.heap.size, 2, none⟩ = some (.int .i64 bk) := by rw [← hwd]; exact RX 2 _ rfl
      have x3 : wd.cell? ⟨wr.heap.size, 3, none⟩ = some (.int .i64 pm) := by rw [← hwd]; exact RX 3 _ rfl
      have x4 : wd.cell? ⟨wr.heap.size, 4, none⟩ = some (.int .i64 jd) := by rw [← hwd]; exact RX 4 _ rfl
      have x5 : wd.cell? ⟨wr.heap.size, 5, none⟩ = some (.int .i64 cp) := by rw [← hwd]; exact RX 5 _ rfl
      have x6 : wd.cell? ⟨wr.heap.size, 6, none⟩ = some (.int .i64 lf) := by rw [← hwd]; exact RX 6 _ rfl
      have x7 : wd.cell? ⟨wr.heap.size, 7, none⟩ = some (.int .i64 tu) := by rw [← hwd]; exact RX 7 _ rfl
      have x8 : wd.cell? ⟨wr.heap.size, 8, none⟩ = some (.int .i64 er) := by rw [← hwd]; exact RX 8 _ rfl
      have ltx : wr.heap.size < wd.heap.size := by rw [← hwd]; simp
      have LTX := Lib.hid ltx
      rw [hwd] at BA NX PX VX ba
      have HWD := Lib.hid hwd
      have SC := Lib.hid (show wd.cell? ⟨wr.heap.size, 0, none⟩ = some (.string j) ∧ wd.cell? ⟨wr.heap.size, 1, none⟩ = some (.int .i64 p) ∧ wd.cell? ⟨wr.heap.size, 2, none⟩ = some (.int .i64 bk) ∧ wd.cell? ⟨wr.heap.size, 3, none⟩ = some (.int .i64 pm) ∧ wd.cell? ⟨wr.heap.size, 4, none⟩ = some (.int .i64 jd) ∧ wd.cell? ⟨wr.heap.size, 5, none⟩ = some (.int .i64 cp) ∧ wd.cell? ⟨wr.heap.size, 6, none⟩ = some (.int .i64 lf) ∧ wd.cell? ⟨wr.heap.size, 7, none⟩ = some (.int .i64 tu) ∧ wd.cell? ⟨wr.heap.size, 8, none⟩ = some (.int .i64 er) from ⟨x0, x1, x2, x3, x4, x5, x6, x7, x8⟩)
      have CX := Lib.hid (C6.out.trans (ba.mono C6.out.size))
      have KX := Lib.hid (K6.out.trans (ba.mono K6.out.size))
      clear cc hpe RX ba x0 x1 x2 x3 x4 x5 x6 x7 x8 hwd ltx
      rcases hcase with ⟨he0, hno⟩ | ⟨rfl, v, SL', hv, hfit, _⟩
      · -- refused
        have CM := Lib.hid fun w5 (q : Below wd.heap.size wd w5) => pmk_no (NX.out.below q) (VX.out.below q) (PX.out.below q) (BInv.zero _) (VInv.zero _) MBal.none_ok (BalAt.nil w5 rfl) hno
        have q1 : (er == er) = true := by simp
        have q2 : ¬ er = 0 := he0
        clear hno he0
        unfold inL balL MBal.none Sl.v Sl.nil at CM
        dsimp only at CM
        go_wp2_with fail
        refine wp_region_noPanic ?_
        refine AnyTill.begin (C := fun w' => w'.cell? ⟨wr.heap.size, 0, none⟩ = some (.string j) ∧ w'.cell? ⟨wr.heap.size, 1, none⟩ = some (.int .i64 p) ∧ w'.cell? ⟨wr.heap.size, 2, none⟩ = some (.int .i64 bk) ∧ w'.cell? ⟨wr.heap.size, 3, none⟩ = some (.int .i64 pm) ∧ w'.cell? ⟨wr.heap.size, 4, none⟩ = some (.int .i64 jd) ∧ w'.cell? ⟨wr.heap.size, 5, none⟩ = some (.int .i64 cp) ∧ w'.cell? ⟨wr.heap.size, 6, none⟩ = some (.int .i64 lf) ∧ w'.cell? ⟨wr.heap.size, 7, none⟩ = some (.int .i64 tu) ∧ w'.cell? ⟨wr.heap.size, 8, none⟩ = some (.int .i64 er)) (q := 99) (by kernel_rfl) ?_
        rw [HWD.out]
        have scd := SC.out
        refine AnyTill.take (i := 0) (v := ?_) (by simp only [List.getElem?_toArray, List.getElem?_cons_zero]; rfl) (by kernel_rfl) (by kernel_rfl) (by kernel_rfl) (by kernel_rfl) (fun _ _ _ h => h) (Or.inl ⟨by rfl, ?_⟩) scd ?_
        rotate_left
        · intro w' hw'; (try dsimp only at hw'); go_simp <;> with_reducible rfl
        try simp only [Act.put, List.setIfInBounds_toArray, List.set_cons_zero, List.set_cons_succ]
        refine AnyTill.take (i := 1) (v := ?_) (by simp only [List.getElem?_toArray, List.getElem?_cons_succ, List.getElem?_cons_zero]; rfl) (by kernel_rfl) (by kernel_rfl) (by kernel_rfl) (by kernel_rfl) (fun _ _ _ h => h) (Or.inl ⟨by rfl, ?_⟩) scd ?_
        rotate_left
        · intro w' hw'; (try dsimp only at hw'); go_simp <;> with_reducible rfl
        try simp only [Act.put, List.setIfInBounds_toArray, List.set_cons_zero, List.set_cons_succ]
        refine AnyTill.take (i := 2) (v := ?_) (by simp only [List.getElem?_toArray, List.getElem?_cons_succ, List.getElem?_cons_zero]; rfl) (by kernel_rfl) (by kernel_rfl) (by kernel_rfl) (by kernel_rfl) (fun _ _ _ h => h) (Or.inl ⟨by rfl, ?_⟩) scd ?_
        rotate_left
        · intro w' hw'; (try dsimp only at hw'); go_simp <;> with_reducible rfl
        try simp only [Act.put, List.setIfInBounds_toArray, List.set_cons_zero, List.set_cons_succ]
        refine AnyTill.take (i := 4) (v := ?_) (by simp only [List.getElem?_toArray, List.getElem?_cons_succ, List.getElem?_cons_zero]; rfl) (by kernel_rfl) (by kernel_rfl) (by kernel_rfl) (by kernel_rfl) (fun _ _ _ h => h) (Or.inl ⟨by rfl, ?_⟩) scd ?_
        rotate_left
        · intro w' hw'; (try dsimp only at hw'); go_simp <;> with_reducible rfl
        try simp only [Act.put, List.setIfInBounds_toArray, List.set_cons_zero, List.set_cons_succ]
        refine AnyTill.take (i := 5) (v := ?_) (by simp only [List.getElem?_toArray, List.getElem?_cons_succ, List.getElem?_cons_zero]; rfl) (by kernel_rfl) (by kernel_rfl) (by kernel_rfl) (by kernel_rfl) (fun _ _ _ h => h) (Or.inl ⟨by rfl, ?_⟩) scd ?_
        rotate_left
        · intro w' hw'; (try dsimp only at hw'); go_simp <;> with_reducible rfl
        try simp only [Act.put, List.setIfInBounds_toArray, List.set_cons_zero, List.set_cons_succ]
        refine' AnyTill.two (i := 3) (k := 11) (o := _) (o' := _) (by kernel_rfl) ?noa ?nob (fun K' hK => ?nox) (fun K' hK => ?noy)
        case noa => (simp only [List.getElem?_toArray, List.getElem?_cons_succ, List.getElem?_cons_zero]; rfl)
        case nob => (simp only [List.getElem?_toArray, List.getElem?_cons_succ, List.getElem?_cons_zero]; rfl)
        case nox =>
          go_simp
          (go_at_call 9; (refine (pnone_x _).mono ?_); rintro e wn ⟨rfl, hbn⟩)
          have sck : wn.cell? ⟨wr.heap.size, 0, none⟩ = some (.string j) ∧ wn.cell? ⟨wr.heap.size, 1, none⟩ = some (.int .i64 p) ∧ wn.cell? ⟨wr.heap.size, 2, none⟩ = some (.int .i64 bk) ∧ wn.cell? ⟨wr.heap.size, 3, none⟩ = some (.int .i64 pm) ∧ wn.cell? ⟨wr.heap.size, 4, none⟩ = some (.int .i64 jd) ∧ wn.cell? ⟨wr.heap.size, 5, none⟩ = some (.int .i64 cp) ∧ wn.cell? ⟨wr.heap.size, 6, none⟩ = some (.int .i64 lf) ∧ wn.cell? ⟨wr.heap.size, 7, none⟩ = some (.int .i64 tu) ∧ wn.cell? ⟨wr.heap.size, 8, none⟩ = some (.int .i64 er) := ⟨cell_keep scd.1 hbn, cell_keep scd.2.1 hbn, cell_keep scd.2.2.1 hbn, cell_keep scd.2.2.2.1 hbn, cell_keep scd.2.2.2.2.1 hbn, cell_keep scd.2.2.2.2.2.1 hbn, cell_keep scd.2.2.2.2.2.2.1 hbn, cell_keep scd.2.2.2.2.2.2.2.1 hbn, cell_keep scd.2.2.2.2.2.2.2.2 hbn⟩
          have KX := Lib.hid (KX.out.trans (hbn.mono KX.out.size))
          have CX := Lib.hid (CX.out.trans (hbn.mono CX.out.size))
          have LTX := Lib.hid (Nat.lt_of_lt_of_le LTX.out hbn.size)
          have CM := Lib.hid fun w5 (q : Below wn.heap.size wn w5) => CM.out w5 (hbn.trans (q.mono hbn.size))
          refine hK.out _ _ (.inr sck) ?_
          clear hK K' hbn scd
          have scd := sck
          clear sck
          obtain ⟨wd, rfl⟩ : ∃ x, x = wn := ⟨_, rfl⟩
          try simp only [Act.put, List.setIfInBounds_toArray, List.set_cons_zero, List.set_cons_succ]
          refine' AnyTill.two (i := 6) (k := 11) (o := _) (o' := _) (by kernel_rfl) ?noc ?nod (fun K' hK => ?nou) (fun K' hK => ?nov)
          case noc => (simp only [List.getElem?_toArray, List.getElem?_cons_succ, List.getElem?_cons_zero]; rfl)
          case nod => (simp only [List.getElem?_toArray, List.getElem?_cons_succ, List.getElem?_cons_zero]; rfl)
          case nou =>
            go_simp
            (go_at_call 8; (refine (CM.out _ (Below.refl _ _)).mono ?_); rintro e w8 ⟨rfl, hb8⟩)
            have pc := pvc_no
            have p0 := pc.at' 0 _ rfl
            have p8 := pc.at' 8 _ rfl
            have p40 := pc.at' 40 _ rfl
            obtain ⟨P, hP⟩ : ∃ P, pv0L.toArray = P := ⟨_, rfl⟩
            rw [hP] at pc p0 p8 p40
            rw [hP]

            have PC := Lib.hid pc
            have sce : w8.cell? ⟨wr.heap.size, 0, none⟩ = some (.string j) ∧ w8.cell? ⟨wr.heap.size, 1, none⟩ = some (.int .i64 p) ∧ w8.cell? ⟨wr.heap.size, 2, none⟩ = some (.int .i64 bk) ∧ w8.cell? ⟨wr.heap.size, 3, none⟩ = some (.int .i64 pm) ∧ w8.cell? ⟨wr.heap.size, 4, none⟩ = some (.int .i64 jd) ∧ w8.cell? ⟨wr.heap.size, 5, none⟩ = some (.int .i64 cp) ∧ w8.cell? ⟨wr.heap.size, 6, none⟩ = some (.int .i64 lf) ∧ w8.cell? ⟨wr.heap.size, 7, none⟩ = some (.int .i64 tu) ∧ w8.cell? ⟨wr.heap.size, 8, none⟩ = some (.int .i64 er) := ⟨cell_keep scd.1 hb8, cell_keep scd.2.1 hb8, cell_keep scd.2.2.1 hb8, cell_keep scd.2.2.2.1 hb8, cell_keep scd.2.2.2.2.1 hb8, cell_keep scd.2.2.2.2.2.1 hb8, cell_keep scd.2.2.2.2.2.2.1 hb8, cell_keep scd.2.2.2.2.2.2.2.1 hb8, cell_keep scd.2.2.2.2.2.2.2.2 hb8⟩
            refine hK.out _ _ (.inr sce) ?_
            clear hK K' hP pc
            try simp only [Act.put, List.setIfInBounds_toArray, List.set_cons_zero, List.set_cons_succ]
            refine AnyTill.take (i := 7) (v := ?_) (by simp only [List.getElem?_toArray, List.getElem?_cons_succ, List.getElem?_cons_zero]; rfl) (by kernel_rfl) (by kernel_rfl) (by kernel_rfl) (by kernel_rfl) (fun _ _ _ h => h) (Or.inl ⟨by rfl, ?_⟩) sce ?_
            rotate_left
            · intro w' hw'; (try dsimp only at hw'); go_simp <;> with_reducible rfl
            try simp only [Act.put, List.setIfInBounds_toArray, List.set_cons_zero, List.set_cons_succ]
            refine AnyTill.take (i := 8) (v := ?_) (by simp only [List.getElem?_toArray, List.getElem?_cons_succ, List.getElem?_cons_zero]; rfl) (by kernel_rfl) (by kernel_rfl) (by kernel_rfl) (by kernel_rfl) (fun _ _ _ h => h) (Or.inl ⟨by rfl, ?_⟩) sce ?_
            rotate_left
            · intro w' hw'; (try dsimp only at hw'); go_simp <;> with_reducible rfl
            try simp only [Act.put, List.setIfInBounds_toArray, List.set_cons_zero, List.set_cons_succ]
            refine AnyTill.take (i := 9) (v := ?_) (by simp only [List.getElem?_toArray, List.getElem?_cons_succ, List.getElem?_cons_zero]; rfl) (by kernel_rfl) (by kernel_rfl) (by kernel_rfl) (by kernel_rfl) (fun _ _ _ h => h) (Or.inl ⟨by rfl, ?_⟩) sce ?_
            rotate_left
            · intro w' hw'; (try dsimp only at hw'); go_simp <;> with_reducible rfl
            try simp only [Act.put, List.setIfInBounds_toArray, List.set_cons_zero, List.set_cons_succ]
            refine AnyTill.take (i := 10) (v := ?_) (by simp only [List.getElem?_toArray, List.getElem?_cons_succ, List.getElem?_cons_zero]; rfl) (by kernel_rfl) (by kernel_rfl) (by kernel_rfl) (by kernel_rfl) (fun _ _ _ h => h) (Or.inl ⟨by rfl, ?_⟩) sce ?_
            rotate_left
            · intro w' hw'; (try dsimp only at hw'); go_simp <;> with_reducible rfl
            try simp only [Act.put, List.setIfInBounds_toArray, List.set_cons_zero, List.set_cons_succ]
            refine' AnyTill.one (i := 11) (o := _) (by kernel_rfl) ?ho11noal (fun K' hK => ?hh11noal)
            case ho11noal => (simp only [List.getElem?_toArray, List.getElem?_cons_succ, List.getElem?_cons_zero]; rfl)
            go_simp
            have scf : (w8.alloc (.cells #[.string ⟨#[]⟩, .int .i64 0, .int .i64 0, .int .i64 0, .int .i64 0, .int .i64 0, .int .i64 0, .int .i64 0, .int .i64 0, .int .i64 0, .slice none 0 0, .slice none 0 0, .int .i64 0, .int .i64 0, .int .i64 0, .int .i64 0, .int .i64 0, .int .i64 0, .slice none 0 0, .slice none 0 0, .int .i64 0, .int .i64 0, .int .i64 0, .int .i64 0, .int .i64 0, .int .i64 0, .int .i64 0, .int .i64 0, .int .i64 0, .int .i64 0, .int .i64 0, .slice none 0 0, .slice none 0 0, .slice none 0 0, .int .i64 0, .int .i64 0, .int .i64 0, .int .i64 0, .int .i64 0, .int .i64 0, .int .i64 0] 44)).cell? ⟨wr.heap.size, 0, none⟩ = some (.string j) ∧ (w8.alloc (.cells #[.string ⟨#[]⟩, .int .i64 0, .int .i64 0, .int .i64 0, .int .i64 0, .int .i64 0, .int .i64 0, .int .i64 0, .int .i64 0, .int .i64 0, .slice none 0 0, .slice none 0 0, .int .i64 0, .int .i64 0, .int .i64 0, .int .i64 0, .int .i64 0, .int .i64 0, .slice none 0 0, .slice none 0 0, .int .i64 0, .int .i64 0, .int .i64 0, .int .i64 0, .int .i64 0, .int .i64 0, .int .i64 0, .int .i64 0, .int .i64 0, .int .i64 0, .int .i64 0, .slice none 0 0, .slice none 0 0, .slice none 0 0, .int .i64 0, .int .i64 0, .int .i64 0, .int .i64 0, .int .i64 0, .int .i64 0, .int .i64 0] 44)).cell? ⟨wr.heap.size, 1, none⟩ = some (.int .i64 p) ∧ (w8.alloc (.cells #[.string ⟨#[]⟩, .int .i64 0, .int .i64 0, .int .i64 0, .int .i64 0, .int .i64 0, .int .i64 0, .int .i64 0, .int .i64 0, .int .i64 0, .slice none 0 0, .slice none 0 0, .int .i64 0, .int .i64 0, .int .i64 0, .int .i64 0, .int .i64 0, .int .i64 0, .slice none 0 0, .slice none 0 0, .int .i64 0, .int .i64 0, .int .i64 0, .int .i64 0, .int .i64 0, .int .i64 0, .int .i64 0, .int .i64 0, .int .i64 0, .int .i64 0, .int .i64 0, .slice none 0 0, .slice none 0 0, .slice none 0 0, .int .i64 0, .int .i64 0, .int .i64 0, .int .i64 0, .int .i64 0, .int .i64 0, .int .i64 0] 44)).cell? ⟨wr.heap.size, 2, none⟩ = some (.int .i64 bk) ∧ (w8.alloc (.cells #[.string ⟨#[]⟩, .int .i64 0, .int .i64 0, .int .i64 0, .int .i64 0, .int .i64 0, .int .i64 0, .int .i64 0, .int .i64 0, .int .i64 0, .slice none 0 0, .slice none 0 0, .int .i64 0, .int .i64 0, .int .i64 0, .int .i64 0, .int .i64 0, .int .i64 0, .slice none 0 0, .slice none 0 0, .int .i64 0, .int .i64 0, .int .i64 0, .int .i64 0, .int .i64 0, .int .i64 0, .int .i64 0, .int .i64 0, .int .i64 0, .int .i64 0, .int .i64 0, .slice none 0 0, .slice none 0 0, .slice none 0 0, .int .i64 0, .int .i64 0, .int .i64 0, .int .i64 0, .int .i64 0, .int .i64 0, .int .i64 0] 44)).cell? ⟨wr.heap.size, 3, none⟩ = some (.int .i64 pm) ∧ (w8.alloc (.cells #[.string ⟨#[]⟩, .int .i64 0, .int .i64 0, .int .i64 0, .int .i64 0, .int .i64 0, .int .i64 0, .int .i64 0, .int .i64 0, .int .i64 0, .slice none 0 0, .slice none 0 0, .int .i64 0, .int .i64 0, .int .i64 0, .int .i64 0, .int .i64 0, .int .i64 0, .slice none 0 0, .slice none 0 0, .int .i64 0, .int .i64 0, .int .i64 0, .int .i64 0, .int .i64 0, .int .i64 0, .int .i64 0, .int .i64 0, .int .i64 0, .int .i64 0, .int .i64 0, .slice none 0 0, .slice none 0 0, .slice none 0 0, .int .i64 0, .int .i64 0, .int .i64 0, .int .i64 0, .int .i64 0, .int .i64 0, .int .i64 0] 44)).cell? ⟨wr.heap.size, 4, none⟩ = some (.int .i64 jd) ∧ (w8.alloc (.cells #[.string ⟨#[]⟩, .int .i64 0, .int .i64 0, .int .i64 0, .int .i64 0, .int .i64 0, .int .i64 0, .int .i64 0, .int .i64 0, .int .i64 0, .slice none 0 0, .slice none 0 0, .int .i64 0, .int .i64 0, .int .i64 0, .int .i64 0, .int .i64 0, .int .i64 0, .slice none 0 0, .slice none 0 0, .int .i64 0, .int .i64 0, .int .i64 0, .int .i64 0, .int .i64 0, .int .i64 0, .int .i64 0, .int .i64 0, .int .i64 0, .int .i64 0, .int .i64 0, .slice none 0 0, .slice none 0 0, .slice none 0 0, .int .i64 0, .int .i64 0, .int .i64 0, .int .i64 0, .int .i64 0, .int .i64 0, .int .i64 0] 44)).cell? ⟨wr.heap.size, 5, none⟩ = some (.int .i64 cp) ∧ (w8.alloc (.cells #[.string ⟨#[]⟩, .int .i64 0, .int .i64 0, .int .i64 0, .int .i64 0, .int .i64 0, .int .i64 0, .int .i64 0, .int .i64 0, .int .i64 0, .slice none 0 0, .slice none 0 0, .int .i64 0, .int .i64 0, .int .i64 0, .int .i64 0, .int .i64 0, .int .i64 0, .slice none 0 0, .slice none 0 0, .int .i64 0, .int .i64 0, .int .i64 0, .int .i64 0, .int .i64 0, .int .i64 0, .int .i64 0, .int .i64 0, .int .i64 0, .int .i64 0, .int .i64 0, .slice none 0 0, .slice none 0 0, .slice none 0 0, .int .i64 0, .int .i64 0, .int .i64 0, .int .i64 0, .int .i64 0, .int .i64 0, .int .i64 0] 44)).cell? ⟨wr.heap.size, 6, none⟩ = some (.int .i64 lf) ∧ (w8.alloc (.cells #[.string ⟨#[]⟩, .int .i64 0, .int .i64 0, .int .i64 0, .int .i64 0, .int .i64 0, .int .i64 0, .int .i64 0, .int .i64 0, .int .i64 0, .slice none 0 0, .slice none 0 0, .int .i64 0, .int .i64 0, .int .i64 0, .int .i64 0, .int .i64 0, .int .i64 0, .slice none 0 0, .slice none 0 0, .int .i64 0, .int .i64 0, .int .i64 0, .int .i64 0, .int .i64 0, .int .i64 0, .int .i64 0, .int .i64 0, .int .i64 0, .int .i64 0, .int .i64 0, .slice none 0 0, .slice none 0 0, .slice none 0 0, .int .i64 0, .int .i64 0, .int .i64 0, .int .i64 0, .int .i64 0, .int .i64 0, .int .i64 0] 44)).cell? ⟨wr.heap.size, 7, none⟩ = some (.int .i64 tu) ∧ (w8.alloc (.cells #[.string ⟨#[]⟩, .int .i64 0, .int .i64 0, .int .i64 0, .int .i64 0, .int .i64 0, .int .i64 0, .int .i64 0, .int .i64 0, .int .i64 0, .slice none 0 0, .slice none 0 0, .int .i64 0, .int .i64 0, .int .i64 0, .int .i64 0, .int .i64 0, .int .i64 0, .slice none 0 0, .slice none 0 0, .int .i64 0, .int .i64 0, .int .i64 0, .int .i64 0, .int .i64 0, .int .i64 0, .int .i64 0, .int .i64 0, .int .i64 0, .int .i64 0, .int .i64 0, .slice none 0 0, .slice none 0 0, .slice none 0 0, .int .i64 0, .int .i64 0, .int .i64 0, .int .i64 0, .int .i64 0, .int .i64 0, .int .i64 0] 44)).cell? ⟨wr.heap.size, 8, none⟩ = some (.int .i64 er) := ⟨cell_keep sce.1 ((Below.refl _ _).alloc (Nat.le_refl _) _), cell_keep sce.2.1 ((Below.refl _ _).alloc (Nat.le_refl _) _), cell_keep sce.2.2.1 ((Below.refl _ _).alloc (Nat.le_refl _) _), cell_keep sce.2.2.2.1 ((Below.refl _ _).alloc (Nat.le_refl _) _), cell_keep sce.2.2.2.2.1 ((Below.refl _ _).alloc (Nat.le_refl _) _), cell_keep sce.2.2.2.2.2.1 ((Below.refl _ _).alloc (Nat.le_refl _) _), cell_keep sce.2.2.2.2.2.2.1 ((Below.refl _ _).alloc (Nat.le_refl _) _), cell_keep sce.2.2.2.2.2.2.2.1 ((Below.refl _ _).alloc (Nat.le_refl _) _), cell_keep sce.2.2.2.2.2.2.2.2 ((Below.refl _ _).alloc (Nat.le_refl _) _)⟩
            refine hK.out _ _ (.inr scf) ?_
            clear hK K'
            try simp only [Act.put, List.setIfInBounds_toArray, List.set_cons_zero, List.set_cons_succ]
            have hg := heap_alloc_last w8 (.cells #[.string ⟨#[]⟩, .int .i64 0, .int .i64 0, .int .i64 0, .int .i64 0, .int .i64 0, .int .i64 0, .int .i64 0, .int .i64 0, .int .i64 0, .slice none 0 0, .slice none 0 0, .int .i64 0, .int .i64 0, .int .i64 0, .int .i64 0, .int .i64 0, .int .i64 0, .slice none 0 0, .slice none 0 0, .int .i64 0, .int .i64 0, .int .i64 0, .int .i64 0, .int .i64 0, .int .i64 0, .int .i64 0, .int .i64 0, .int .i64 0, .int .i64 0, .int .i64 0, .slice none 0 0, .slice none 0 0, .slice none 0 0, .int .i64 0, .int .i64 0, .int .i64 0, .int .i64 0, .int .i64 0, .int .i64 0, .int .i64 0] 44)
            refine' AnyTill.one (i := 12) (o := _) (by kernel_rfl) ?ho12nost (fun K' hK => ?hh12nost)
            case ho12nost => (simp only [List.getElem?_toArray, List.getElem?_cons_succ, List.getElem?_cons_zero]; rfl)
            rw [if_pos (by rfl)]
            refine wp_store_row 44 (.tmp 9) (.tmp 80) rfl w8.heap.size P rfl rfl _ _ hg (by rw [PC.out.size]; kernel_rfl) (by rw [PC.out.size]; rfl) PC.out.one ?_
            refine hK.out _ _ (.inr ⟨set_far scf.1 (by have := hb8.size; have := LTX.out; omega), set_far scf.2.1 (by have := hb8.size; have := LTX.out; omega), set_far scf.2.2.1 (by have := hb8.size; have := LTX.out; omega), set_far scf.2.2.2.1 (by have := hb8.size; have := LTX.out; omega), set_far scf.2.2.2.2.1 (by have := hb8.size; have := LTX.out; omega), set_far scf.2.2.2.2.2.1 (by have := hb8.size; have := LTX.out; omega), set_far scf.2.2.2.2.2.2.1 (by have := hb8.size; have := LTX.out; omega), set_far scf.2.2.2.2.2.2.2.1 (by have := hb8.size; have := LTX.out; omega), set_far scf.2.2.2.2.2.2.2.2 (by have := hb8.size; have := LTX.out; omega)⟩) ?_
            clear hK K'
            try simp only [Act.put]
            refine AnyTill.take (i := 13) (v := ?_) (by simp only [List.getElem?_toArray, List.getElem?_cons_succ, List.getElem?_cons_zero]; rfl) (by kernel_rfl) (by kernel_rfl) (by kernel_rfl) (by kernel_rfl) (fun _ _ _ h => h) (Or.inl ⟨by rfl, ?_⟩) ⟨set_far scf.1 (by have := hb8.size; have := LTX.out; omega), set_far scf.2.1 (by have := hb8.size; have := LTX.out; omega), set_far scf.2.2.1 (by have := hb8.size; have := LTX.out; omega), set_far scf.2.2.2.1 (by have := hb8.size; have := LTX.out; omega), set_far scf.2.2.2.2.1 (by have := hb8.size; have := LTX.out; omega), set_far scf.2.2.2.2.2.1 (by have := hb8.size; have := LTX.out; omega), set_far scf.2.2.2.2.2.2.1 (by have := hb8.size; have := LTX.out; omega), set_far scf.2.2.2.2.2.2.2.1 (by have := hb8.size; have := LTX.out; omega), set_far scf.2.2.2.2.2.2.2.2 (by have := hb8.size; have := LTX.out; omega)⟩ ?_
            rotate_left
            · intro w' hw'; (try dsimp only at hw'); go_simp <;> with_reducible rfl
            try simp only [Act.put, List.setIfInBounds_toArray, List.set_cons_zero, List.set_cons_succ]
            refine AnyTill.take (i := 14) (v := ?_) (by simp only [List.getElem?_toArray, List.getElem?_cons_succ, List.getElem?_cons_zero]; rfl) (by kernel_rfl) (by kernel_rfl) (by kernel_rfl) (by kernel_rfl) (fun _ _ _ h => h) (Or.inl ⟨by rfl, ?_⟩) ⟨set_far scf.1 (by have := hb8.size; have := LTX.out; omega), set_far scf.2.1 (by have := hb8.size; have := LTX.out; omega), set_far scf.2.2.1 (by have := hb8.size; have := LTX.out; omega), set_far scf.2.2.2.1 (by have := hb8.size; have := LTX.out; omega), set_far scf.2.2.2.2.1 (by have := hb8.size; have := LTX.out; omega), set_far scf.2.2.2.2.2.1 (by have := hb8.size; have := LTX.out; omega), set_far scf.2.2.2.2.2.2.1 (by have := hb8.size; have := LTX.out; omega), set_far scf.2.2.2.2.2.2.2.1 (by have := hb8.size; have := LTX.out; omega), set_far scf.2.2.2.2.2.2.2.2 (by have := hb8.size; have := LTX.out; omega)⟩ ?_
            rotate_left
            · intro w' hw'; (try dsimp only at hw'); go_simp <;> with_reducible rfl
            try simp only [Act.put, List.setIfInBounds_toArray, List.set_cons_zero, List.set_cons_succ]
            refine AnyTill.done (by kernel_rfl) ?_ _
            refine NoPanic.normal ?_
            have y0 := set_cells (P := P) hg p0
            have y8 := set_cells (P := P) hg p8
            have y40 := set_cells (P := P) hg p40
            have kz := below_setRow ((KX.out.trans (hb8.mono KX.out.size)).alloc (by have := KX.out.size; have := hb8.size; omega) (.cells #[.string ⟨#[]⟩, .int .i64 0, .int .i64 0, .int .i64 0, .int .i64 0, .int .i64 0, .int .i64 0, .int .i64 0, .int .i64 0, .int .i64 0, .slice none 0 0, .slice none 0 0, .int .i64 0, .int .i64 0, .int .i64 0, .int .i64 0, .int .i64 0, .int .i64 0, .slice none 0 0, .slice none 0 0, .int .i64 0, .int .i64 0, .int .i64 0, .int .i64 0, .int .i64 0, .int .i64 0, .int .i64 0, .int .i64 0, .int .i64 0, .int .i64 0, .int .i64 0, .slice none 0 0, .slice none 0 0, .slice none 0 0, .int .i64 0, .int .i64 0, .int .i64 0, .int .i64 0, .int .i64 0, .int .i64 0, .int .i64 0] 44)) (g := w8.heap.size) (by have := KX.out.size; have := hb8.size; omega) P
            have cz := below_setRow ((CX.out.trans (hb8.mono CX.out.size)).alloc (by have := CX.out.size; have := hb8.size; omega) (.cells #[.string ⟨#[]⟩, .int .i64 0, .int .i64 0, .int .i64 0, .int .i64 0, .int .i64 0, .int .i64 0, .int .i64 0, .int .i64 0, .int .i64 0, .slice none 0 0, .slice none 0 0, .int .i64 0, .int .i64 0, .int .i64 0, .int .i64 0, .int .i64 0, .int .i64 0, .slice none 0 0, .slice none 0 0, .int .i64 0, .int .i64 0, .int .i64 0, .int .i64 0, .int .i64 0, .int .i64 0, .int .i64 0, .int .i64 0, .int .i64 0, .int .i64 0, .int .i64 0, .slice none 0 0, .slice none 0 0, .slice none 0 0, .int .i64 0, .int .i64 0, .int .i64 0, .int .i64 0, .int .i64 0, .int .i64 0, .int .i64 0] 44)) (g := w8.heap.size) (by have := CX.out.size; have := hb8.size; omega) P
            have x8 := set_far (P := P) scf.2.2.2.2.2.2.2.2 (show wr.heap.size ≠ w8.heap.size by have := hb8.size; have := LTX.out; omega)
            obtain ⟨wz, hwz⟩ : ∃ wz, (w8.alloc (.cells #[.string ⟨#[]⟩, .int .i64 0, .int .i64 0, .int .i64 0, .int .i64 0, .int .i64 0, .int .i64 0, .int .i64 0, .int .i64 0, .int .i64 0, .slice none 0 0, .slice none 0 0, .int .i64 0, .int .i64 0, .int .i64 0, .int .i64 0, .int .i64 0, .int .i64 0, .slice none 0 0, .slice none 0 0, .int .i64 0, .int .i64 0, .int .i64 0, .int .i64 0, .int .i64 0, .int .i64 0, .int .i64 0, .int .i64 0, .int .i64 0, .int .i64 0, .int .i64 0, .slice none 0 0, .slice none 0 0, .slice none 0 0, .int .i64 0, .int .i64 0, .int .i64 0, .int .i64 0, .int .i64 0, .int .i64 0, .int .i64 0] 44)).setRow w8.heap.size P = wz := ⟨_, rfl⟩
            have HWZ := Lib.hid hwz
            rw [hwz] at y0 y8 y40 x8 kz cz
            have KZ := Lib.hid kz
            have CZ := Lib.hid cz
            clear hwz kz cz hb8 sce scf scd hg PC p0 p8 p40
            rw [HWZ.out]
            clear HWZ
            go_wp2
            go_roundg (14 - (k + 1))
            case measure => have := HGK.out; omega
            case rel => exact ⟨k + 1, by omega, rfl, by go_num, KZ.out, CZ.out⟩
          case nov =>
            go_simp
            have scb : (wd.alloc (.cells #[.string ⟨#[]⟩, .int .i64 0, .int .i64 0, .int .i64 0, .int .i64 0, .int .i64 0, .int .i64 0, .int .i64 0, .int .i64 0, .int .i64 0, .slice none 0 0, .slice none 0 0, .int .i64 0, .int .i64 0, .int .i64 0, .int .i64 0, .int .i64 0, .int .i64 0, .slice none 0 0, .slice none 0 0, .int .i64 0, .int .i64 0, .int .i64 0, .int .i64 0, .int .i64 0, .int .i64 0, .int .i64 0, .int .i64 0, .int .i64 0, .int .i64 0, .int .i64 0, .slice none 0 0, .slice none 0 0, .slice none 0 0, .int .i64 0, .int .i64 0, .int .i64 0, .int .i64 0, .int .i64 0, .int .i64 0, .int .i64 0] 44)).cell? ⟨wr.heap.size, 0, none⟩ = some (.string j) ∧ (wd.alloc (.cells #[.string ⟨#[]⟩, .int .i64 0, .int .i64 0, .int .i64 0, .int .i64 0, .int .i64 0, .int .i64 0, .int .i64 0, .int .i64 0, .int .i64 0, .slice none 0 0, .slice none 0 0, .int .i64 0, .int .i64 0, .int .i64 0, .int .i64 0, .int .i64 0, .int .i64 0, .slice none 0 0, .slice none 0 0, .int .i64 0, .int .i64 0, .int .i64 0, .int .i64 0, .int .i64 0, .int .i64 0, .int .i64 0, .int .i64 0, .int .i64 0, .int .i64 0, .int .i64 0, .slice none 0 0, .slice none 0 0, .slice none 0 0, .int .i64 0, .int .i64 0, .int .i64 0, .int .i64 0, .int .i64 0, .int .i64 0, .int .i64 0] 44)).cell? ⟨wr.heap.size, 1, none⟩ = some (.int .i64 p) ∧ (wd.alloc (.cells #[.string ⟨#[]⟩, .int .i64 0, .int .i64 0, .int .i64 0, .int .i64 0, .int .i64 0, .int .i64 0, .int .i64 0, .int .i64 0, .int .i64 0, .slice none 0 0, .slice none 0 0, .int .i64 0, .int .i64 0, .int .i64 0, .int .i64 0, .int .i64 0, .int .i64 0, .slice none 0 0, .slice none 0 0, .int .i64 0, .int .i64 0, .int .i64 0, .int .i64 0, .int .i64 0, .int .i64 0, .int .i64 0, .int .i64 0, .int .i64 0, .int .i64 0, .int .i64 0, .slice none 0 0, .slice none 0 0, .slice none 0 0, .int .i64 0, .int .i64 0, .int .i64 0, .int .i64 0, .int .i64 0, .int .i64 0, .int .i64 0] 44)).cell? ⟨wr.heap.size, 2, none⟩ = some (.int .i64 bk) ∧ (wd.alloc (.cells #[.string ⟨#[]⟩, .int .i64 0, .int .i64 0, .int .i64 0, .int .i64 0, .int .i64 0, .int .i64 0, .int .i64 0, .int .i64 0, .int .i64 0, .slice none 0 0, .slice none 0 0, .int .i64 0, .int .i64 0, .int .i64 0, .int .i64 0, .int .i64 0, .int .i64 0, .slice none 0 0, .slice none 0 0, .int .i64 0, .int .i64 0, .int .i64 0, .int .i64 0, .int .i64 0, .int .i64 0, .int .i64 0, .int .i64 0, .int .i64 0, .int .i64 0, .int .i64 0, .slice none 0 0, .slice none 0 0, .slice none 0 0, .int .i64 0, .int .i64 0, .int .i64 0, .int .i64 0, .int .i64 0, .int .i64 0, .int .i64 0] 44)).cell? ⟨wr.heap.size, 3, none⟩ = some (.int .i64 pm) ∧ (wd.alloc (.cells #[.string ⟨#[]⟩, .int .i64 0, .int .i64 0, .int .i64 0, .int .i64 0, .int .i64 0, .int .i64 0, .int .i64 0, .int .i64 0, .int .i64 0, .slice none 0 0, .slice none 0 0, .int .i64 0, .int .i64 0, .int .i64 0, .int .i64 0, .int .i64 0, .int .i64 0, .slice none 0 0, .slice none 0 0, .int .i64 0, .int .i64 0, .int .i64 0, .int .i64 0, .int .i64 0, .int .i64 0, .int .i64 0, .int .i64 0, .int .i64 0, .int .i64 0, .int .i64 0, .slice none 0 0, .slice none 0 0, .slice none 0 0, .int .i64 0, .int .i64 0, .int .i64 0, .int .i64 0, .int .i64 0, .int .i64 0, .int .i64 0] 44)).cell? ⟨wr.heap.size, 4, none⟩ = some (.int .i64 jd) ∧ (wd.alloc (.cells #[.string ⟨#[]⟩, .int .i64 0, .int .i64 0, .int .i64 0, .int .i64 0, .int .i64 0, .int .i64 0, .int .i64 0, .int .i64 0, .int .i64 0, .slice none 0 0, .slice none 0 0, .int .i64 0, .int .i64 0, .int .i64 0, .int .i64 0, .int .i64 0, .int .i64 0, .slice none 0 0, .slice none 0 0, .int .i64 0, .int .i64 0, .int .i64 0, .int .i64 0, .int .i64 0, .int .i64 0, .int .i64 0, .int .i64 0, .int .i64 0, .int .i64 0, .int .i64 0, .slice none 0 0, .slice none 0 0, .slice none 0 0, .int .i64 0, .int .i64 0, .int .i64 0, .int .i64 0, .int .i64 0, .int .i64 0, .int .i64 0] 44)).cell? ⟨wr.heap.size, 5, none⟩ = some (.int .i64 cp) ∧ (wd.alloc (.cells #[.string ⟨#[]⟩, .int .i64 0, .int .i64 0, .int .i64 0, .int .i64 0, .int .i64 0, .int .i64 0, .int .i64 0, .int .i64 0, .int .i64 0, .slice none 0 0, .slice none 0 0, .int .i64 0, .int .i64 0, .int .i64 0, .int .i64 0, .int .i64 0, .int .i64 0, .slice none 0 0, .slice none 0 0, .int .i64 0, .int .i64 0, .int .i64 0, .int .i64 0, .int .i64 0, .int .i64 0, .int .i64 0, .int .i64 0, .int .i64 0, .int .i64 0, .int .i64 0, .slice none 0 0, .slice none 0 0, .slice none 0 0, .int .i64 0, .int .i64 0, .int .i64 0, .int .i64 0, .int .i64 0, .int .i64 0, .int .i64 0] 44)).cell? ⟨wr.heap.size, 6, none⟩ = some (.int .i64 lf) ∧ (wd.alloc (.cells #[.string ⟨#[]⟩, .int .i64 0, .int .i64 0, .int .i64 0, .int .i64 0, .int .i64 0, .int .i64 0, .int .i64 0, .int .i64 0, .int .i64 0, .slice none 0 0, .slice none 0 0, .int .i64 0, .int .i64 0, .int .i64 0, .int .i64 0, .int .i64 0, .int .i64 0, .slice none 0 0, .slice none 0 0, .int .i64 0, .int .i64 0, .int .i64 0, .int .i64 0, .int .i64 0, .int .i64 0, .int .i64 0, .int .i64 0, .int .i64 0, .int .i64 0, .int .i64 0, .slice none 0 0, .slice none 0 0, .slice none 0 0, .int .i64 0, .int .i64 0, .int .i64 0, .int .i64 0, .int .i64 0, .int .i64 0, .int .i64 0] 44)).cell? ⟨wr.heap.size, 7, none⟩ = some (.int .i64 tu) ∧ (wd.alloc (.cells #[.string ⟨#[]⟩, .int .i64 0, .int .i64 0, .int .i64 0, .int .i64 0, .int .i64 0, .int .i64 0, .int .i64 0, .int .i64 0, .int .i64 0, .slice none 0 0, .slice none 0 0, .int .i64 0, .int .i64 0, .int .i64 0, .int .i64 0, .int .i64 0, .int .i64 0, .slice none 0 0, .slice none 0 0, .int .i64 0, .int .i64 0, .int .i64 0, .int .i64 0, .int .i64 0, .int .i64 0, .int .i64 0, .int .i64 0, .int .i64 0, .int .i64 0, .int .i64 0, .slice none 0 0, .slice none 0 0, .slice none 0 0, .int .i64 0, .int .i64 0, .int .i64 0, .int .i64 0, .int .i64 0, .int .i64 0, .int .i64 0] 44)).cell? ⟨wr.heap.size, 8, none⟩ = some (.int .i64 er) := ⟨cell_keep scd.1 ((Below.refl _ _).alloc (Nat.le_refl _) _), cell_keep scd.2.1 ((Below.refl _ _).alloc (Nat.le_refl _) _), cell_keep scd.2.2.1 ((Below.refl _ _).alloc (Nat.le_refl _) _), cell_keep scd.2.2.2.1 ((Below.refl _ _).alloc (Nat.le_refl _) _), cell_keep scd.2.2.2.2.1 ((Below.refl _ _).alloc (Nat.le_refl _) _), cell_keep scd.2.2.2.2.2.1 ((Below.refl _ _).alloc (Nat.le_refl _) _), cell_keep scd.2.2.2.2.2.2.1 ((Below.refl _ _).alloc (Nat.le_refl _) _), cell_keep scd.2.2.2.2.2.2.2.1 ((Below.refl _ _).alloc (Nat.le_refl _) _), cell_keep scd.2.2.2.2.2.2.2.2 ((Below.refl _ _).alloc (Nat.le_refl _) _)⟩
            have hg0 := heap_alloc_last wd (.cells #[.string ⟨#[]⟩, .int .i64 0, .int .i64 0, .int .i64 0, .int .i64 0, .int .i64 0, .int .i64 0, .int .i64 0, .int .i64 0, .int .i64 0, .slice none 0 0, .slice none 0 0, .int .i64 0, .int .i64 0, .int .i64 0, .int .i64 0, .int .i64 0, .int .i64 0, .slice none 0 0, .slice none 0 0, .int .i64 0, .int .i64 0, .int .i64 0, .int .i64 0, .int .i64 0, .int .i64 0, .int .i64 0, .int .i64 0, .int .i64 0, .int .i64 0, .int .i64 0, .slice none 0 0, .slice none 0 0, .slice none 0 0, .int .i64 0, .int .i64 0, .int .i64 0, .int .i64 0, .int .i64 0, .int .i64 0, .int .i64 0] 44)
            have bb := (Below.refl wd.heap.size wd).alloc (Nat.le_refl _) (.cells #[.string ⟨#[]⟩, .int .i64 0, .int .i64 0, .int .i64 0, .int .i64 0, .int .i64 0, .int .i64 0, .int .i64 0, .int .i64 0, .int .i64 0, .slice none 0 0, .slice none 0 0, .int .i64 0, .int .i64 0, .int .i64 0, .int .i64 0, .int .i64 0, .int .i64 0, .slice none 0 0, .slice none 0 0, .int .i64 0, .int .i64 0, .int .i64 0, .int .i64 0, .int .i64 0, .int .i64 0, .int .i64 0, .int .i64 0, .int .i64 0, .int .i64 0, .int .i64 0, .slice none 0 0, .slice none 0 0, .slice none 0 0, .int .i64 0, .int .i64 0, .int .i64 0, .int .i64 0, .int .i64 0, .int .i64 0, .int .i64 0] 44)
            have szb : (wd.alloc (.cells #[.string ⟨#[]⟩, .int .i64 0, .int .i64 0, .int .i64 0, .int .i64 0, .int .i64 0, .int .i64 0, .int .i64 0, .int .i64 0, .int .i64 0, .slice none 0 0, .slice none 0 0, .int .i64 0, .int .i64 0, .int .i64 0, .int .i64 0, .int .i64 0, .int .i64 0, .slice none 0 0, .slice none 0 0, .int .i64 0, .int .i64 0, .int .i64 0, .int .i64 0, .int .i64 0, .int .i64 0, .int .i64 0, .int .i64 0, .int .i64 0, .int .i64 0, .int .i64 0, .slice none 0 0, .slice none 0 0, .slice none 0 0, .int .i64 0, .int .i64 0, .int .i64 0, .int .i64 0, .int .i64 0, .int .i64 0, .int .i64 0] 44)).heap.size = wd.heap.size + 1 := by simp
            refine hK.out _ _ (.inr scb) ?_
            clear hK K'
            try simp only [Act.put, List.setIfInBounds_toArray, List.set_cons_zero, List.set_cons_succ]
            refine' AnyTill.one (i := 6) (o := _) (by kernel_rfl) ?ho6nomkv (fun K' hK => ?hh6nomkv)
            case ho6nomkv => (simp only [List.getElem?_toArray, List.getElem?_cons_succ, List.getElem?_cons_zero]; rfl)
            go_simp
            (go_at_call 8; (refine (CM.out _ bb).mono ?_); rintro e w8 ⟨rfl, hb8⟩)
            have pc := pvc_no
            have p0 := pc.at' 0 _ rfl
            have p8 := pc.at' 8 _ rfl
            have p40 := pc.at' 40 _ rfl
            obtain ⟨P, hP⟩ : ∃ P, pv0L.toArray = P := ⟨_, rfl⟩
            rw [hP] at pc p0 p8 p40
            rw [hP]

            have PC := Lib.hid pc
            have sce : w8.cell? ⟨wr.heap.size, 0, none⟩ = some (.string j) ∧ w8.cell? ⟨wr.heap.size, 1, none⟩ = some (.int .i64 p) ∧ w8.cell? ⟨wr.heap.size, 2, none⟩ = some (.int .i64 bk) ∧ w8.cell? ⟨wr.heap.size, 3, none⟩ = some (.int .i64 pm) ∧ w8.cell? ⟨wr.heap.size, 4, none⟩ = some (.int .i64 jd) ∧ w8.cell? ⟨wr.heap.size, 5, none⟩ = some (.int .i64 cp) ∧ w8.cell? ⟨wr.heap.size, 6, none⟩ = some (.int .i64 lf) ∧ w8.cell? ⟨wr.heap.size, 7, none⟩ = some (.int .i64 tu) ∧ w8.cell? ⟨wr.heap.size, 8, none⟩ = some (.int .i64 er) := ⟨cell_keep scb.1 hb8, cell_keep scb.2.1 hb8, cell_keep scb.2.2.1 hb8, cell_keep scb.2.2.2.1 hb8, cell_keep scb.2.2.2.2.1 hb8, cell_keep scb.2.2.2.2.2.1 hb8, cell_keep scb.2.2.2.2.2.2.1 hb8, cell_keep scb.2.2.2.2.2.2.2.1 hb8, cell_keep scb.2.2.2.2.2.2.2.2 hb8⟩
            refine hK.out _ _ (.inr sce) ?_
            clear hK K' hP pc
            try simp only [Act.put, List.setIfInBounds_toArray, List.set_cons_zero, List.set_cons_succ]
            refine AnyTill.take (i := 7) (v := ?_) (by simp only [List.getElem?_toArray, List.getElem?_cons_succ, List.getElem?_cons_zero]; rfl) (by kernel_rfl) (by kernel_rfl) (by kernel_rfl) (by kernel_rfl) (fun _ _ _ h => h) (Or.inl ⟨by rfl, ?_⟩) sce ?_
            rotate_left
            · intro w' hw'; (try dsimp only at hw'); go_simp <;> with_reducible rfl
            try simp only [Act.put, List.setIfInBounds_toArray, List.set_cons_zero, List.set_cons_succ]
            refine AnyTill.take (i := 8) (v := ?_) (by simp only [List.getElem?_toArray, List.getElem?_cons_succ, List.getElem?_cons_zero]; rfl) (by kernel_rfl) (by kernel_rfl) (by kernel_rfl) (by kernel_rfl) (fun _ _ _ h => h) (Or.inl ⟨by rfl, ?_⟩) sce ?_
            rotate_left
            · intro w' hw'; (try dsimp only at hw'); go_simp <;> with_reducible rfl
            try simp only [Act.put, List.setIfInBounds_toArray, List.set_cons_zero, List.set_cons_succ]
            refine AnyTill.take (i := 9) (v := ?_) (by simp only [List.getElem?_toArray, List.getElem?_cons_succ, List.getElem?_cons_zero]; rfl) (by kernel_rfl) (by kernel_rfl) (by kernel_rfl) (by kernel_rfl) (fun _ _ _ h => h) (Or.inl ⟨by rfl, ?_⟩) sce ?_
            rotate_left
            · intro w' hw'; (try dsimp only at hw'); go_simp <;> with_reducible rfl
            try simp only [Act.put, List.setIfInBounds_toArray, List.set_cons_zero, List.set_cons_succ]
            refine AnyTill.take (i := 10) (v := ?_) (by simp only [List.getElem?_toArray, List.getElem?_cons_succ, List.getElem?_cons_zero]; rfl) (by kernel_rfl) (by kernel_rfl) (by kernel_rfl) (by kernel_rfl) (fun _ _ _ h => h) (Or.inl ⟨by rfl, ?_⟩) sce ?_
            rotate_left
            · intro w' hw'; (try dsimp only at hw'); go_simp <;> with_reducible rfl
            try simp only [Act.put, List.setIfInBounds_toArray, List.set_cons_zero, List.set_cons_succ]
            have hg := (hb8.block wd.heap.size (by omega)).trans hg0
            refine' AnyTill.one (i := 12) (o := _) (by kernel_rfl) ?ho12nos2v (fun K' hK => ?hh12nos2v)
            case ho12nos2v => (simp only [List.getElem?_toArray, List.getElem?_cons_succ, List.getElem?_cons_zero]; rfl)
            rw [if_pos (by rfl)]
            refine wp_store_row 44 (.tmp 9) (.tmp 80) rfl wd.heap.size P rfl rfl _ _ hg (by rw [PC.out.size]; kernel_rfl) (by rw [PC.out.size]; rfl) PC.out.one ?_
            refine hK.out _ _ (.inr ⟨set_far sce.1 (by have := LTX.out; omega), set_far sce.2.1 (by have := LTX.out; omega), set_far sce.2.2.1 (by have := LTX.out; omega), set_far sce.2.2.2.1 (by have := LTX.out; omega), set_far sce.2.2.2.2.1 (by have := LTX.out; omega), set_far sce.2.2.2.2.2.1 (by have := LTX.out; omega), set_far sce.2.2.2.2.2.2.1 (by have := LTX.out; omega), set_far sce.2.2.2.2.2.2.2.1 (by have := LTX.out; omega), set_far sce.2.2.2.2.2.2.2.2 (by have := LTX.out; omega)⟩) ?_
            clear hK K'
            try simp only [Act.put]
            refine AnyTill.take (i := 13) (v := ?_) (by simp only [List.getElem?_toArray, List.getElem?_cons_succ, List.getElem?_cons_zero]; rfl) (by kernel_rfl) (by kernel_rfl) (by kernel_rfl) (by kernel_rfl) (fun _ _ _ h => h) (Or.inl ⟨by rfl, ?_⟩) ⟨set_far sce.1 (by have := LTX.out; omega), set_far sce.2.1 (by have := LTX.out; omega), set_far sce.2.2.1 (by have := LTX.out; omega), set_far sce.2.2.2.1 (by have := LTX.out; omega), set_far sce.2.2.2.2.1 (by have := LTX.out; omega), set_far sce.2.2.2.2.2.1 (by have := LTX.out; omega), set_far sce.2.2.2.2.2.2.1 (by have := LTX.out; omega), set_far sce.2.2.2.2.2.2.2.1 (by have := LTX.out; omega), set_far sce.2.2.2.2.2.2.2.2 (by have := LTX.out; omega)⟩ ?_
            rotate_left
            · intro w' hw'; (try dsimp only at hw'); go_simp <;> with_reducible rfl
            try simp only [Act.put, List.setIfInBounds_toArray, List.set_cons_zero, List.set_cons_succ]
            refine AnyTill.take (i := 14) (v := ?_) (by simp only [List.getElem?_toArray, List.getElem?_cons_succ, List.getElem?_cons_zero]; rfl) (by kernel_rfl) (by kernel_rfl) (by kernel_rfl) (by kernel_rfl) (fun _ _ _ h => h) (Or.inl ⟨by rfl, ?_⟩) ⟨set_far sce.1 (by have := LTX.out; omega), set_far sce.2.1 (by have := LTX.out; omega), set_far sce.2.2.1 (by have := LTX.out; omega), set_far sce.2.2.2.1 (by have := LTX.out; omega), set_far sce.2.2.2.2.1 (by have := LTX.out; omega), set_far sce.2.2.2.2.2.1 (by have := LTX.out; omega), set_far sce.2.2.2.2.2.2.1 (by have := LTX.out; omega), set_far sce.2.2.2.2.2.2.2.1 (by have := LTX.out; omega), set_far sce.2.2.2.2.2.2.2.2 (by have := LTX.out; omega)⟩ ?_
            rotate_left
            · intro w' hw'; (try dsimp only at hw'); go_simp <;> with_reducible rfl
            try simp only [Act.put, List.setIfInBounds_toArray, List.set_cons_zero, List.set_cons_succ]
            refine AnyTill.done (by kernel_rfl) ?_ _
            refine NoPanic.normal ?_
            have y0 := set_cells (P := P) hg p0
            have y8 := set_cells (P := P) hg p8
            have y40 := set_cells (P := P) hg p40
            have kz := below_setRow (KX.out.trans ((bb.trans (hb8.mono bb.size)).mono KX.out.size)) (g := wd.heap.size) KX.out.size P
            have cz := below_setRow (CX.out.trans ((bb.trans (hb8.mono bb.size)).mono CX.out.size)) (g := wd.heap.size) CX.out.size P
            have x8 := set_far (P := P) sce.2.2.2.2.2.2.2.2 (show wr.heap.size ≠ wd.heap.size by have := LTX.out; omega)
            obtain ⟨wz, hwz⟩ : ∃ wz, w8.setRow wd.heap.size P = wz := ⟨_, rfl⟩
            have HWZ := Lib.hid hwz
            rw [hwz] at y0 y8 y40 x8 kz cz
            have KZ := Lib.hid kz
            have CZ := Lib.hid cz
            clear hwz kz cz hb8 sce scb scd hg hg0 bb szb PC p0 p8 p40
            rw [HWZ.out]
            clear HWZ
            go_wp2
            go_roundg (14 - (k + 1))
            case measure => have := HGK.out; omega
            case rel => exact ⟨k + 1, by omega, rfl, by go_num, KZ.out, CZ.out⟩
        case noy =>
            go_simp
            have scb : (wd.alloc (.cells #[.string ⟨#[]⟩, .int .i64 0, .int .i64 0, .int .i64 0, .int .i64 0, .int .i64 0, .int .i64 0, .int .i64 0, .int .i64 0, .int .i64 0, .slice none 0 0, .slice none 0 0, .int .i64 0, .int .i64 0, .int .i64 0, .int .i64 0, .int .i64 0, .int .i64 0, .slice none 0 0, .slice none 0 0, .int .i64 0, .int .i64 0, .int .i64 0, .int .i64 0, .int .i64 0, .int .i64 0, .int .i64 0, .int .i64 0, .int .i64 0, .int .i64 0, .int .i64 0, .slice none 0 0, .slice none 0 0, .slice none 0 0, .int .i64 0, .int .i64 0, .int .i64 0, .int .i64 0, .int .i64 0, .int .i64 0, .int .i64 0] 44)).cell? ⟨wr.heap.size, 0, none⟩ = some (.string j) ∧ (wd.alloc (.cells #[.string ⟨#[]⟩, .int .i64 0, .int .i64 0, .int .i64 0, .int .i64 0, .int .i64 0, .int .i64 0, .int .i64 0, .int .i64 0, .int .i64 0, .slice none 0 0, .slice none 0 0, .int .i64 0, .int .i64 0, .int .i64 0, .int .i64 0, .int .i64 0, .int .i64 0, .slice none 0 0, .slice none 0 0, .int .i64 0, .int .i64 0, .int .i64 0, .int .i64 0, .int .i64 0, .int .i64 0, .int .i64 0, .int .i64 0, .int .i64 0, .int .i64 0, .int .i64 0, .slice none 0 0, .slice none 0 0, .slice none 0 0, .int .i64 0, .int .i64 0, .int .i64 0, .int .i64 0, .int .i64 0, .int .i64 0, .int .i64 0] 44)).cell? ⟨wr.heap.size, 1, none⟩ = some (.int .i64 p) ∧ (wd.alloc (.cells #[.string ⟨#[]⟩, .int .i64 0, .int .i64 0, .int .i64 0, .int .i64 0, .int .i64 0, .int .i64 0, .int .i64 0, .int .i64 0, .int .i64 0, .slice none 0 0, .slice none 0 0, .int .i64 0, .int .i64 0, .int .i64 0, .int .i64 0, .int .i64 0, .int .i64 0, .slice none 0 0, .slice none 0 0, .int .i64 0, .int .i64 0, .int .i64 0, .int .i64 0, .int .i64 0, .int .i64 0, .int .i64 0, .int .i64 0, .int .i64 0, .int .i64 0, .int .i64 0, .slice none 0 0, .slice none 0 0, .slice none 0 0, .int .i64 0, .int .i64 0, .int .i64 0, .int .i64 0, .int .i64 0, .int .i64 0, .int .i64 0] 44)).cell? ⟨wr.heap.size, 2, none⟩ = some (.int .i64 bk) ∧ (wd.alloc (.cells #[.string ⟨#[]⟩, .int .i64 0, .int .i64 0, .int .i64 0, .int .i64 0, .int .i64 0, .int .i64 0, .int .i64 0, .int .i64 0, .int .i64 0, .slice none 0 0, .slice none 0 0, .int .i64 0, .int .i64 0, .int .i64 0, .int .i64 0, .int .i64 0, .int .i64 0, .slice none 0 0, .slice none 0 0, .int .i64 0, .int .i64 0, .int .i64 0, .int .i64 0, .int .i64 0, .int .i64 0, .int .i64 0, .int .i64 0, .int .i64 0, .int .i64 0, .int .i64 0, .slice none 0 0, .slice none 0 0, .slice none 0 0, .int .i64 0, .int .i64 0, .int .i64 0, .int .i64 0, .int .i64 0, .int .i64 0, .int .i64 0] 44)).cell? ⟨wr.heap.size, 3, none⟩ = some (.int .i64 pm) ∧ (wd.alloc (.cells #[.string ⟨#[]⟩, .int .i64 0, .int .i64 0, .int .i64 0, .int .i64 0, .int .i64 0, .int .i64 0, .int .i64 0, .int .i64 0, .int .i64 0, .slice none 0 0, .slice none 0 0, .int .i64 0, .int .i64 0, .int .i64 0, .int .i64 0, .int .i64 0, .int .i64 0, .slice none 0 0, .slice none 0 0, .int .i64 0, .int .i64 0, .int .i64 0, .int .i64 0, .int .i64 0, .int .i64 0, .int .i64 0, .int .i64 0, .int .i64 0, .int .i64 0, .int .i64 0, .slice none 0 0, .slice none 0 0, .slice none 0 0, .int .i64 0, .int .i64 0, .int .i64 0, .int .i64 0, .int .i64 0, .int .i64 0, .int .i64 0] 44)).cell? ⟨wr.heap.size, 4, none⟩ = some (.int .i64 jd) ∧ (wd.alloc (.cells #[.string ⟨#[]⟩, .int .i64 0, .int .i64 0, .int .i64 0, .int .i64 0, .int .i64 0, .int .i64 0, .int .i64 0, .int .i64 0, .int .i64 0, .slice none 0 0, .slice none 0 0, .int .i64 0, .int .i64 0, .int .i64 0, .int .i64 0, .int .i64 0, .int .i64 0, .slice none 0 0, .slice none 0 0, .int .i64 0, .int .i64 0, .int .i64 0, .int .i64 0, .int .i64 0, .int .i64 0, .int .i64 0, .int .i64 0, .int .i64 0, .int .i64 0, .int .i64 0, .slice none 0 0, .slice none 0 0, .slice none 0 0, .int .i64 0, .int .i64 0, .int .i64 0, .int .i64 0, .int .i64 0, .int .i64 0, .int .i64 0] 44)).cell? ⟨wr.heap.size, 5, none⟩ = some (.int .i64 cp) ∧ (wd.alloc (.cells #[.string ⟨#[]⟩, .int .i64 0, .int .i64 0, .int .i64 0, .int .i64 0, .int .i64 0, .int .i64 0, .int .i64 0, .int .i64 0, .int .i64 0, .slice none 0 0, .slice none 0 0, .int .i64 0, .int .i64 0, .int .i64 0, .int .i64 0, .int .i64 0, .int .i64 0, .slice none 0 0, .slice none 0 0, .int .i64 0, .int .i64 0, .int .i64 0, .int .i64 0, .int .i64 0, .int .i64 0, .int .i64 0, .int .i64 0, .int .i64 0, .int .i64 0, .int .i64 0, .slice none 0 0, .slice none 0 0, .slice none 0 0, .int .i64 0, .int .i64 0, .int .i64 0, .int .i64 0, .int .i64 0, .int .i64 0, .int .i64 0] 44)).cell? ⟨wr.heap.size, 6, none⟩ = some (.int .i64 lf) ∧ (wd.alloc (.cells #[.string ⟨#[]⟩, .int .i64 0, .int .i64 0, .int .i64 0, .int .i64 0, .int .i64 0, .int .i64 0, .int .i64 0, .int .i64 0, .int .i64 0, .slice none 0 0, .slice none 0 0, .int .i64 0, .int .i64 0, .int .i64 0, .int .i64 0, .int .i64 0, .int .i64 0, .slice none 0 0, .slice none 0 0, .int .i64 0, .int .i64 0, .int .i64 0, .int .i64 0, .int .i64 0, .int .i64 0, .int .i64 0, .int .i64 0, .int .i64 0, .int .i64 0, .int .i64 0, .slice none 0 0, .slice none 0 0, .slice none 0 0, .int .i64 0, .int .i64 0, .int .i64 0, .int .i64 0, .int .i64 0, .int .i64 0, .int .i64 0] 44)).cell? ⟨wr.heap.size, 7, none⟩ = some (.int .i64 tu) ∧ (wd.alloc (.cells #[.string ⟨#[]⟩, .int .i64 0, .int .i64 0, .int .i64 0, .int .i64 0, .int .i64 0, .int .i64 0, .int .i64 0, .int .i64 0, .int .i64 0, .slice none 0 0, .slice none 0 0, .int .i64 0, .int .i64 0, .int .i64 0, .int .i64 0, .int .i64 0, .int .i64 0, .slice none 0 0, .slice none 0 0, .int .i64 0, .int .i64 0, .int .i64 0, .int .i64 0, .int .i64 0, .int .i64 0, .int .i64 0, .int .i64 0, .int .i64 0, .int .i64 0, .int .i64 0, .slice none 0 0, .slice none 0 0, .slice none 0 0, .int .i64 0, .int .i64 0, .int .i64 0, .int .i64 0, .int .i64 0, .int .i64 0, .int .i64 0] 44)).cell? ⟨wr.heap.size, 8, none⟩ = some (.int .i64 er) := ⟨cell_keep scd.1 ((Below.refl _ _).alloc (Nat.le_refl _) _), cell_keep scd.2.1 ((Below.refl _ _).alloc (Nat.le_refl _) _), cell_keep scd.2.2.1 ((Below.refl _ _).alloc (Nat.le_refl _) _), cell_keep scd.2.2.2.1 ((Below.refl _ _).alloc (Nat.le_refl _) _), cell_keep scd.2.2.2.2.1 ((Below.refl _ _).alloc (Nat.le_refl _) _), cell_keep scd.2.2.2.2.2.1 ((Below.refl _ _).alloc (Nat.le_refl _) _), cell_keep scd.2.2.2.2.2.2.1 ((Below.refl _ _).alloc (Nat.le_refl _) _), cell_keep scd.2.2.2.2.2.2.2.1 ((Below.refl _ _).alloc (Nat.le_refl _) _), cell_keep scd.2.2.2.2.2.2.2.2 ((Below.refl _ _).alloc (Nat.le_refl _) _)⟩
            have hg0 := heap_alloc_last wd (.cells #[.string ⟨#[]⟩, .int .i64 0, .int .i64 0, .int .i64 0, .int .i64 0, .int .i64 0, .int .i64 0, .int .i64 0, .int .i64 0, .int .i64 0, .slice none 0 0, .slice none 0 0, .int .i64 0, .int .i64 0, .int .i64 0, .int .i64 0, .int .i64 0, .int .i64 0, .slice none 0 0, .slice none 0 0, .int .i64 0, .int .i64 0, .int .i64 0, .int .i64 0, .int .i64 0, .int .i64 0, .int .i64 0, .int .i64 0, .int .i64 0, .int .i64 0, .int .i64 0, .slice none 0 0, .slice none 0 0, .slice none 0 0, .int .i64 0, .int .i64 0, .int .i64 0, .int .i64 0, .int .i64 0, .int .i64 0, .int .i64 0] 44)
            have bb := (Below.refl wd.heap.size wd).alloc (Nat.le_refl _) (.cells #[.string ⟨#[]⟩, .int .i64 0, .int .i64 0, .int .i64 0, .int .i64 0, .int .i64 0, .int .i64 0, .int .i64 0, .int .i64 0, .int .i64 0, .slice none 0 0, .slice none 0 0, .int .i64 0, .int .i64 0, .int .i64 0, .int .i64 0, .int .i64 0, .int .i64 0, .slice none 0 0, .slice none 0 0, .int .i64 0, .int .i64 0, .int .i64 0, .int .i64 0, .int .i64 0, .int .i64 0, .int .i64 0, .int .i64 0, .int .i64 0, .int .i64 0, .int .i64 0, .slice none 0 0, .slice none 0 0, .slice none 0 0, .int .i64 0, .int .i64 0, .int .i64 0, .int .i64 0, .int .i64 0, .int .i64 0, .int .i64 0] 44)
            have szb : (wd.alloc (.cells #[.string ⟨#[]⟩, .int .i64 0, .int .i64 0, .int .i64 0, .int .i64 0, .int .i64 0, .int .i64 0, .int .i64 0, .int .i64 0, .int .i64 0, .slice none 0 0, .slice none 0 0, .int .i64 0, .int .i64 0, .int .i64 0, .int .i64 0, .int .i64 0, .int .i64 0, .slice none 0 0, .slice none 0 0, .int .i64 0, .int .i64 0, .int .i64 0, .int .i64 0, .int .i64 0, .int .i64 0, .int .i64 0, .int .i64 0, .int .i64 0, .int .i64 0, .int .i64 0, .slice none 0 0, .slice none 0 0, .slice none 0 0, .int .i64 0, .int .i64 0, .int .i64 0, .int .i64 0, .int .i64 0, .int .i64 0, .int .i64 0] 44)).heap.size = wd.heap.size + 1 := by simp
            refine hK.out _ _ (.inr scb) ?_
            clear hK K'
            try simp only [Act.put, List.setIfInBounds_toArray, List.set_cons_zero, List.set_cons_succ]
            refine' AnyTill.one (i := 3) (o := _) (by kernel_rfl) ?ho3nonn (fun K' hK => ?hh3nonn)
            case ho3nonn => (simp only [List.getElem?_toArray, List.getElem?_cons_succ, List.getElem?_cons_zero]; rfl)
            go_simp
            (go_at_call 9; (refine (pnone_x _).mono ?_); rintro e wn ⟨rfl, hbn⟩)
            have scb2 : wn.cell? ⟨wr.heap.size, 0, none⟩ = some (.string j) ∧ wn.cell? ⟨wr.heap.size, 1, none⟩ = some (.int .i64 p) ∧ wn.cell? ⟨wr.heap.size, 2, none⟩ = some (.int .i64 bk) ∧ wn.cell? ⟨wr.heap.size, 3, none⟩ = some (.int .i64 pm) ∧ wn.cell? ⟨wr.heap.size, 4, none⟩ = some (.int .i64 jd) ∧ wn.cell? ⟨wr.heap.size, 5, none⟩ = some (.int .i64 cp) ∧ wn.cell? ⟨wr.heap.size, 6, none⟩ = some (.int .i64 lf) ∧ wn.cell? ⟨wr.heap.size, 7, none⟩ = some (.int .i64 tu) ∧ wn.cell? ⟨wr.heap.size, 8, none⟩ = some (.int .i64 er) := ⟨cell_keep scb.1 hbn, cell_keep scb.2.1 hbn, cell_keep scb.2.2.1 hbn, cell_keep scb.2.2.2.1 hbn, cell_keep scb.2.2.2.2.1 hbn, cell_keep scb.2.2.2.2.2.1 hbn, cell_keep scb.2.2.2.2.2.2.1 hbn, cell_keep scb.2.2.2.2.2.2.2.1 hbn, cell_keep scb.2.2.2.2.2.2.2.2 hbn⟩
            have hg0 := (hbn.block wd.heap.size (by rw [szb]; omega)).trans hg0
            have szb : wd.heap.size + 1 ≤ wn.heap.size := (by have := hbn.size; rw [szb] at this; omega)
            have bb := bb.trans (hbn.mono bb.size)
            refine hK.out _ _ (.inr scb2) ?_
            clear hK K' hbn scb
            have scb := scb2
            clear scb2
            try simp only [Act.put, List.setIfInBounds_toArray, List.set_cons_zero, List.set_cons_succ]
            refine' AnyTill.one (i := 6) (o := _) (by kernel_rfl) ?ho6nomky (fun K' hK => ?hh6nomky)
            case ho6nomky => (simp only [List.getElem?_toArray, List.getElem?_cons_succ, List.getElem?_cons_zero]; rfl)
            go_simp
            (go_at_call 8; (refine (CM.out _ bb).mono ?_); rintro e w8 ⟨rfl, hb8⟩)
            have pc := pvc_no
            have p0 := pc.at' 0 _ rfl
            have p8 := pc.at' 8 _ rfl
            have p40 := pc.at' 40 _ rfl
            obtain ⟨P, hP⟩ : ∃ P, pv0L.toArray = P := ⟨_, rfl⟩
            rw [hP] at pc p0 p8 p40
            rw [hP]

            have PC := Lib.hid pc
            have sce : w8.cell? ⟨wr.heap.size, 0, none⟩ = some (.string j) ∧ w8.cell? ⟨wr.heap.size, 1, none⟩ = some (.int .i64 p) ∧ w8.cell? ⟨wr.heap.size, 2, none⟩ = some (.int .i64 bk) ∧ w8.cell? ⟨wr.heap.size, 3, none⟩ = some (.int .i64 pm) ∧ w8.cell? ⟨wr.heap.size, 4, none⟩ = some (.int .i64 jd) ∧ w8.cell? ⟨wr.heap.size, 5, none⟩ = some (.int .i64 cp) ∧ w8.cell? ⟨wr.heap.size, 6, none⟩ = some (.int .i64 lf) ∧ w8.cell? ⟨wr.heap.size, 7, none⟩ = some (.int .i64 tu) ∧ w8.cell? ⟨wr.heap.size, 8, none⟩ = some (.int .i64 er) := ⟨cell_keep scb.1 hb8, cell_keep scb.2.1 hb8, cell_keep scb.2.2.1 hb8, cell_keep scb.2.2.2.1 hb8, cell_keep scb.2.2.2.2.1 hb8, cell_keep scb.2.2.2.2.2.1 hb8, cell_keep scb.2.2.2.2.2.2.1 hb8, cell_keep scb.2.2.2.2.2.2.2.1 hb8, cell_keep scb.2.2.2.2.2.2.2.2 hb8⟩
            refine hK.out _ _ (.inr sce) ?_
            clear hK K' hP pc
            try simp only [Act.put, List.setIfInBounds_toArray, List.set_cons_zero, List.set_cons_succ]
            refine AnyTill.take (i := 7) (v := ?_) (by simp only [List.getElem?_toArray, List.getElem?_cons_succ, List.getElem?_cons_zero]; rfl) (by kernel_rfl) (by kernel_rfl) (by kernel_rfl) (by kernel_rfl) (fun _ _ _ h => h) (Or.inl ⟨by rfl, ?_⟩) sce ?_
            rotate_left
            · intro w' hw'; (try dsimp only at hw'); go_simp <;> with_reducible rfl
            try simp only [Act.put, List.setIfInBounds_toArray, List.set_cons_zero, List.set_cons_succ]
            refine AnyTill.take (i := 8) (v := ?_) (by simp only [List.getElem?_toArray, List.getElem?_cons_succ, List.getElem?_cons_zero]; rfl) (by kernel_rfl) (by kernel_rfl) (by kernel_rfl) (by kernel_rfl) (fun _ _ _ h => h) (Or.inl ⟨by rfl, ?_⟩) sce ?_
            rotate_left
            · intro w' hw'; (try dsimp only at hw'); go_simp <;> with_reducible rfl
            try simp only [Act.put, List.setIfInBounds_toArray, List.set_cons_zero, List.set_cons_succ]
            refine AnyTill.take (i := 9) (v := ?_) (by simp only [List.getElem?_toArray, List.getElem?_cons_succ, List.getElem?_cons_zero]; rfl) (by kernel_rfl) (by kernel_rfl) (by kernel_rfl) (by kernel_rfl) (fun _ _ _ h => h) (Or.inl ⟨by rfl, ?_⟩) sce ?_
            rotate_left
            · intro w' hw'; (try dsimp only at hw'); go_simp <;> with_reducible rfl
            try simp only [Act.put, List.setIfInBounds_toArray, List.set_cons_zero, List.set_cons_succ]
            refine AnyTill.take (i := 10) (v := ?_) (by simp only [List.getElem?_toArray, List.getElem?_cons_succ, List.getElem?_cons_zero]; rfl) (by kernel_rfl) (by kernel_rfl) (by kernel_rfl) (by kernel_rfl) (fun _ _ _ h => h) (Or.inl ⟨by rfl, ?_⟩) sce ?_
            rotate_left
            · intro w' hw'; (try dsimp only at hw'); go_simp <;> with_reducible rfl
            try simp only [Act.put, List.setIfInBounds_toArray, List.set_cons_zero, List.set_cons_succ]
            have hg := (hb8.block wd.heap.size (by omega)).trans hg0
            refine' AnyTill.one (i := 12) (o := _) (by kernel_rfl) ?ho12nos2y (fun K' hK => ?hh12nos2y)
            case ho12nos2y => (simp only [List.getElem?_toArray, List.getElem?_cons_succ, List.getElem?_cons_zero]; rfl)
            rw [if_pos (by rfl)]
            refine wp_store_row 44 (.tmp 9) (.tmp 80) rfl wd.heap.size P rfl rfl _ _ hg (by rw [PC.out.size]; kernel_rfl) (by rw [PC.out.size]; rfl) PC.out.one ?_
            refine hK.out _ _ (.inr ⟨set_far sce.1 (by have := LTX.out; omega), set_far sce.2.1 (by have := LTX.out; omega), set_far sce.2.2.1 (by have := LTX.out; omega), set_far sce.2.2.2.1 (by have := LTX.out; omega), set_far sce.2.2.2.2.1 (by have := LTX.out; omega), set_far sce.2.2.2.2.2.1 (by have := LTX.out; omega), set_far sce.2.2.2.2.2.2.1 (by have := LTX.out; omega), set_far sce.2.2.2.2.2.2.2.1 (by have := LTX.out; omega), set_far sce.2.2.2.2.2.2.2.2 (by have := LTX.out; omega)⟩) ?_
            clear hK K'
            try simp only [Act.put]
            refine AnyTill.take (i := 13) (v := ?_) (by simp only [List.getElem?_toArray, List.getElem?_cons_succ, List.getElem?_cons_zero]; rfl) (by kernel_rfl) (by kernel_rfl) (by kernel_rfl) (by kernel_rfl) (fun _ _ _ h => h) (Or.inl ⟨by rfl, ?_⟩) ⟨set_far sce.1 (by have := LTX.out; omega), set_far sce.2.1 (by have := LTX.out; omega), set_far sce.2.2.1 (by have := LTX.out; omega), set_far sce.2.2.2.1 (by have := LTX.out; omega), set_far sce.2.2.2.2.1 (by have := LTX.out; omega), set_far sce.2.2.2.2.2.1 (by have := LTX.out; omega), set_far sce.2.2.2.2.2.2.1 (by have := LTX.out; omega), set_far sce.2.2.2.2.2.2.2.1 (by have := LTX.out; omega), set_far sce.2.2.2.2.2.2.2.2 (by have := LTX.out; omega)⟩ ?_
            rotate_left
            · intro w' hw'; (try dsimp only at hw'); go_simp <;> with_reducible rfl
            try simp only [Act.put, List.setIfInBounds_toArray, List.set_cons_zero, List.set_cons_succ]
            refine AnyTill.take (i := 14) (v := ?_) (by simp only [List.getElem?_toArray, List.getElem?_cons_succ, List.getElem?_cons_zero]; rfl) (by kernel_rfl) (by kernel_rfl) (by kernel_rfl) (by kernel_rfl) (fun _ _ _ h => h) (Or.inl ⟨by rfl, ?_⟩) ⟨set_far sce.1 (by have := LTX.out; omega), set_far sce.2.1 (by have := LTX.out; omega), set_far sce.2.2.1 (by have := LTX.out; omega), set_far sce.2.2.2.1 (by have := LTX.out; omega), set_far sce.2.2.2.2.1 (by have := LTX.out; omega), set_far sce.2.2.2.2.2.1 (by have := LTX.out; omega), set_far sce.2.2.2.2.2.2.1 (by have := LTX.out; omega), set_far sce.2.2.2.2.2.2.2.1 (by have := LTX.out; omega), set_far sce.2.2.2.2.2.2.2.2 (by have := LTX.out; omega)⟩ ?_
            rotate_left
            · intro w' hw'; (try dsimp only at hw'); go_simp <;> with_reducible rfl
            try simp only [Act.put, List.setIfInBounds_toArray, List.set_cons_zero, List.set_cons_succ]
            refine AnyTill.done (by kernel_rfl) ?_ _
            refine NoPanic.normal ?_
            have y0 := set_cells (P := P) hg p0
            have y8 := set_cells (P := P) hg p8
            have y40 := set_cells (P := P) hg p40
            have kz := below_setRow (KX.out.trans ((bb.trans (hb8.mono bb.size)).mono KX.out.size)) (g := wd.heap.size) KX.out.size P
            have cz := below_setRow (CX.out.trans ((bb.trans (hb8.mono bb.size)).mono CX.out.size)) (g := wd.heap.size) CX.out.size P
            have x8 := set_far (P := P) sce.2.2.2.2.2.2.2.2 (show wr.heap.size ≠ wd.heap.size by have := LTX.out; omega)
            obtain ⟨wz, hwz⟩ : ∃ wz, w8.setRow wd.heap.size P = wz := ⟨_, rfl⟩
            have HWZ := Lib.hid hwz
            rw [hwz] at y0 y8 y40 x8 kz cz
            have KZ := Lib.hid kz
            have CZ := Lib.hid cz
            clear hwz kz cz hb8 sce scb scd hg hg0 bb szb PC p0 p8 p40
            rw [HWZ.out]
            clear HWZ
            go_wp2
            go_roundg (14 - (k + 1))
            case measure => have := HGK.out; omega
            case rel => exact ⟨k + 1, by omega, rfl, by go_num, KZ.out, CZ.out⟩
      · -- made
        have CM := Lib.hid fun w5 (q : Below wd.heap.size wd w5) => pmk_ok (NX.out.below q) (VX.out.below q) (PX.out.below q) (BInv.zero _) (VInv.zero _) MBal.none_ok (BalAt.nil w5 rfl) hv hfit
        clear hv hfit
        unfold inL balL MBal.none Sl.v Sl.nil at CM
        dsimp only at CM
        go_wp2_with fail
        refine wp_region_noPanic ?_
        refine AnyTill.begin (C := fun w' => w'.cell? ⟨wr.heap.size, 0, none⟩ = some (.string j) ∧ w'.cell? ⟨wr.heap.size, 1, none⟩ = some (.int .i64 p) ∧ w'.cell? ⟨wr.heap.size, 2, none⟩ = some (.int .i64 bk) ∧ w'.cell? ⟨wr.heap.size, 3, none⟩ = some (.int .i64 pm) ∧ w'.cell? ⟨wr.heap.size, 4, none⟩ = some (.int .i64 jd) ∧ w'.cell? ⟨wr.heap.size, 5, none⟩ = some (.int .i64 cp) ∧ w'.cell? ⟨wr.heap.size, 6, none⟩ = some (.int .i64 lf) ∧ w'.cell? ⟨wr.heap.size, 7, none⟩ = some (.int .i64 tu) ∧ w'.cell? ⟨wr.heap.size, 8, none⟩ = some (.int .i64 0)) (q := 99) (by kernel_rfl) ?_
        rw [HWD.out]
        have scd := SC.out
        refine AnyTill.take (i := 0) (v := ?_) (by simp only [List.getElem?_toArray, List.getElem?_cons_zero]; rfl) (by kernel_rfl) (by kernel_rfl) (by kernel_rfl) (by kernel_rfl) (fun _ _ _ h => h) (Or.inl ⟨by rfl, ?_⟩) scd ?_
        rotate_left
        · intro w' hw'; (try dsimp only at hw'); go_simp <;> with_reducible rfl
        try simp only [Act.put, List.setIfInBounds_toArray, List.set_cons_zero, List.set_cons_succ]
        refine AnyTill.take (i := 1) (v := ?_) (by simp only [List.getElem?_toArray, List.getElem?_cons_succ, List.getElem?_cons_zero]; rfl) (by kernel_rfl) (by kernel_rfl) (by kernel_rfl) (by kernel_rfl) (fun _ _ _ h => h) (Or.inl ⟨by rfl, ?_⟩) scd ?_
        rotate_left
        · intro w' hw'; (try dsimp only at hw'); go_simp <;> with_reducible rfl
        try simp only [Act.put, List.setIfInBounds_toArray, List.set_cons_zero, List.set_cons_succ]
        refine AnyTill.take (i := 2) (v := ?_) (by simp only [List.getElem?_toArray, List.getElem?_cons_succ, List.getElem?_cons_zero]; rfl) (by kernel_rfl) (by kernel_rfl) (by kernel_rfl) (by kernel_rfl) (fun _ _ _ h => h) (Or.inl ⟨by rfl, ?_⟩) scd ?_
        rotate_left
        · intro w' hw'; (try dsimp only at hw'); go_simp <;> with_reducible rfl
        try simp only [Act.put, List.setIfInBounds_toArray, List.set_cons_zero, List.set_cons_succ]
        refine AnyTill.take (i := 4) (v := ?_) (by simp only [List.getElem?_toArray, List.getElem?_cons_succ, List.getElem?_cons_zero]; rfl) (by kernel_rfl) (by kernel_rfl) (by kernel_rfl) (by kernel_rfl) (fun _ _ _ h => h) (Or.inl ⟨by rfl, ?_⟩) scd ?_
        rotate_left
        · intro w' hw'; (try dsimp only at hw'); go_simp <;> with_reducible rfl
        try simp only [Act.put, List.setIfInBounds_toArray, List.set_cons_zero, List.set_cons_succ]
        refine AnyTill.take (i := 5) (v := ?_) (by simp only [List.getElem?_toArray, List.getElem?_cons_succ, List.getElem?_cons_zero]; rfl) (by kernel_rfl) (by kernel_rfl) (by kernel_rfl) (by kernel_rfl) (fun _ _ _ h => h) (Or.inl ⟨by rfl, ?_⟩) scd ?_
        rotate_left
        · intro w' hw'; (try dsimp only at hw'); go_simp <;> with_reducible rfl
        try simp only [Act.put, List.setIfInBounds_toArray, List.set_cons_zero, List.set_cons_succ]
        refine' AnyTill.two (i := 3) (k := 11) (o := _) (o' := _) (by kernel_rfl) ?yesa ?yesb (fun K' hK => ?yesx) (fun K' hK => ?yesy)
        case yesa => (simp only [List.getElem?_toArray, List.getElem?_cons_succ, List.getElem?_cons_zero]; rfl)
        case yesb => (simp only [List.getElem?_toArray, List.getElem?_cons_succ, List.getElem?_cons_zero]; rfl)
        case yesx =>
          go_simp
          (go_at_call 9; (refine (pnone_x _).mono ?_); rintro e wn ⟨rfl, hbn⟩)
          have sck : wn.cell? ⟨wr.heap.size, 0, none⟩ = some (.string j) ∧ wn.cell? ⟨wr.heap.size, 1, none⟩ = some (.int .i64 p) ∧ wn.cell? ⟨wr.heap.size, 2, none⟩ = some (.int .i64 bk) ∧ wn.cell? ⟨wr.heap.size, 3, none⟩ = some (.int .i64 pm) ∧ wn.cell? ⟨wr.heap.size, 4, none⟩ = some (.int .i64 jd) ∧ wn.cell? ⟨wr.heap.size, 5, none⟩ = some (.int .i64 cp) ∧ wn.cell? ⟨wr.heap.size, 6, none⟩ = some (.int .i64 lf) ∧ wn.cell? ⟨wr.heap.size, 7, none⟩ = some (.int .i64 tu) ∧ wn.cell? ⟨wr.heap.size, 8, none⟩ = some (.int .i64 0) := ⟨cell_keep scd.1 hbn, cell_keep scd.2.1 hbn, cell_keep scd.2.2.1 hbn, cell_keep scd.2.2.2.1 hbn, cell_keep scd.2.2.2.2.1 hbn, cell_keep scd.2.2.2.2.2.1 hbn, cell_keep scd.2.2.2.2.2.2.1 hbn, cell_keep scd.2.2.2.2.2.2.2.1 hbn, cell_keep scd.2.2.2.2.2.2.2.2 hbn⟩
          have KX := Lib.hid (KX.out.trans (hbn.mono KX.out.size))
          have CX := Lib.hid (CX.out.trans (hbn.mono CX.out.size))
          have LTX := Lib.hid (Nat.lt_of_lt_of_le LTX.out hbn.size)
          have CM := Lib.hid fun w5 (q : Below wn.heap.size wn w5) => CM.out w5 (hbn.trans (q.mono hbn.size))
          refine hK.out _ _ (.inr sck) ?_
          clear hK K' hbn scd
          have scd := sck
          clear sck
          obtain ⟨wd, rfl⟩ : ∃ x, x = wn := ⟨_, rfl⟩
          try simp only [Act.put, List.setIfInBounds_toArray, List.set_cons_zero, List.set_cons_succ]
          refine' AnyTill.two (i := 6) (k := 11) (o := _) (o' := _) (by kernel_rfl) ?yesc ?yesd (fun K' hK => ?yesu) (fun K' hK => ?yesv)
          case yesc => (simp only [List.getElem?_toArray, List.getElem?_cons_succ, List.getElem?_cons_zero]; rfl)
          case yesd => (simp only [List.getElem?_toArray, List.getElem?_cons_succ, List.getElem?_cons_zero]; rfl)
          case yesu =>
            go_simp
            (go_at_call 8; (refine (CM.out _ (Below.refl _ _)).mono ?_); rintro e w8 ⟨lb8, O8, ss, rfl, _, _, hb8⟩)
            have pc := pvc_of ⟨j, p, bk, pm, jd, cp, lf, tu⟩ MBal.none v ss
            unfold MBal.none at pc
            obtain ⟨P, hP⟩ : ∃ P, (pvL ⟨j, p, bk, pm, jd, cp, lf, tu⟩ ⟨-1, 0, fun _ => ⟨0, 0, 0⟩, fun _ => 0, 0, 0, 0, 0, 0⟩ v ss).toArray = P := ⟨_, rfl⟩
            rw [hP] at pc
            rw [hP]

            have PC := Lib.hid pc
            have sce : w8.cell? ⟨wr.heap.size, 0, none⟩ = some (.string j) ∧ w8.cell? ⟨wr.heap.size, 1, none⟩ = some (.int .i64 p) ∧ w8.cell? ⟨wr.heap.size, 2, none⟩ = some (.int .i64 bk) ∧ w8.cell? ⟨wr.heap.size, 3, none⟩ = some (.int .i64 pm) ∧ w8.cell? ⟨wr.heap.size, 4, none⟩ = some (.int .i64 jd) ∧ w8.cell? ⟨wr.heap.size, 5, none⟩ = some (.int .i64 cp) ∧ w8.cell? ⟨wr.heap.size, 6, none⟩ = some (.int .i64 lf) ∧ w8.cell? ⟨wr.heap.size, 7, none⟩ = some (.int .i64 tu) ∧ w8.cell? ⟨wr.heap.size, 8, none⟩ = some (.int .i64 0) := ⟨cell_keep scd.1 hb8, cell_keep scd.2.1 hb8, cell_keep scd.2.2.1 hb8, cell_keep scd.2.2.2.1 hb8, cell_keep scd.2.2.2.2.1 hb8, cell_keep scd.2.2.2.2.2.1 hb8, cell_keep scd.2.2.2.2.2.2.1 hb8, cell_keep scd.2.2.2.2.2.2.2.1 hb8, cell_keep scd.2.2.2.2.2.2.2.2 hb8⟩
            refine hK.out _ _ (.inr sce) ?_
            clear hK K' hP pc
            try simp only [Act.put, List.setIfInBounds_toArray, List.set_cons_zero, List.set_cons_succ]
            refine AnyTill.take (i := 7) (v := ?_) (by simp only [List.getElem?_toArray, List.getElem?_cons_succ, List.getElem?_cons_zero]; rfl) (by kernel_rfl) (by kernel_rfl) (by kernel_rfl) (by kernel_rfl) (fun _ _ _ h => h) (Or.inl ⟨by rfl, ?_⟩) sce ?_
            rotate_left
            · intro w' hw'; (try dsimp only at hw'); go_simp <;> with_reducible rfl
            try simp only [Act.put, List.setIfInBounds_toArray, List.set_cons_zero, List.set_cons_succ]
            refine AnyTill.take (i := 8) (v := ?_) (by simp only [List.getElem?_toArray, List.getElem?_cons_succ, List.getElem?_cons_zero]; rfl) (by kernel_rfl) (by kernel_rfl) (by kernel_rfl) (by kernel_rfl) (fun _ _ _ h => h) (Or.inl ⟨by rfl, ?_⟩) sce ?_
            rotate_left
            · intro w' hw'; (try dsimp only at hw'); go_simp <;> with_reducible rfl
            try simp only [Act.put, List.setIfInBounds_toArray, List.set_cons_zero, List.set_cons_succ]
            refine AnyTill.take (i := 9) (v := ?_) (by simp only [List.getElem?_toArray, List.getElem?_cons_succ, List.getElem?_cons_zero]; rfl) (by kernel_rfl) (by kernel_rfl) (by kernel_rfl) (by kernel_rfl) (fun _ _ _ h => h) (Or.inl ⟨by rfl, ?_⟩) sce ?_
            rotate_left
            · intro w' hw'; (try dsimp only at hw'); go_simp <;> with_reducible rfl
            try simp only [Act.put, List.setIfInBounds_toArray, List.set_cons_zero, List.set_cons_succ]
            refine AnyTill.take (i := 10) (v := ?_) (by simp only [List.getElem?_toArray, List.getElem?_cons_succ, List.getElem?_cons_zero]; rfl) (by kernel_rfl) (by kernel_rfl) (by kernel_rfl) (by kernel_rfl) (fun _ _ _ h => h) (Or.inl ⟨by rfl, ?_⟩) sce ?_
            rotate_left
            · intro w' hw'; (try dsimp only at hw'); go_simp <;> with_reducible rfl
            try simp only [Act.put, List.setIfInBounds_toArray, List.set_cons_zero, List.set_cons_succ]
            refine' AnyTill.one (i := 11) (o := _) (by kernel_rfl) ?ho11yesal (fun K' hK => ?hh11yesal)
            case ho11yesal => (simp only [List.getElem?_toArray, List.getElem?_cons_succ, List.getElem?_cons_zero]; rfl)
            go_simp
            have scf : (w8.alloc (.cells #[.string ⟨#[]⟩, .int .i64 0, .int .i64 0, .int .i64 0, .int .i64 0, .int .i64 0, .int .i64 0, .int .i64 0, .int .i64 0, .int .i64 0, .slice none 0 0, .slice none 0 0, .int .i64 0, .int .i64 0, .int .i64 0, .int .i64 0, .int .i64 0, .int .i64 0, .slice none 0 0, .slice none 0 0, .int .i64 0, .int .i64 0, .int .i64 0, .int .i64 0, .int .i64 0, .int .i64 0, .int .i64 0, .int .i64 0, .int .i64 0, .int .i64 0, .int .i64 0, .slice none 0 0, .slice none 0 0, .slice none 0 0, .int .i64 0, .int .i64 0, .int .i64 0, .int .i64 0, .int .i64 0, .int .i64 0, .int .i64 0] 44)).cell? ⟨wr.heap.size, 0, none⟩ = some (.string j) ∧ (w8.alloc (.cells #[.string ⟨#[]⟩, .int .i64 0, .int .i64 0, .int .i64 0, .int .i64 0, .int .i64 0, .int .i64 0, .int .i64 0, .int .i64 0, .int .i64 0, .slice none 0 0, .slice none 0 0, .int .i64 0, .int .i64 0, .int .i64 0, .int .i64 0, .int .i64 0, .int .i64 0, .slice none 0 0, .slice none 0 0, .int .i64 0, .int .i64 0, .int .i64 0, .int .i64 0, .int .i64 0, .int .i64 0, .int .i64 0, .int .i64 0, .int .i64 0, .int .i64 0, .int .i64 0, .slice none 0 0, .slice none 0 0, .slice none 0 0, .int .i64 0, .int .i64 0, .int .i64 0, .int .i64 0, .int .i64 0, .int .i64 0, .int .i64 0] 44)).cell? ⟨wr.heap.size, 1, none⟩ = some (.int .i64 p) ∧ (w8.alloc (.cells #[.string ⟨#[]⟩, .int .i64 0, .int .i64 0, .int .i64 0, .int .i64 0, .int .i64 0, .int .i64 0, .int .i64 0, .int .i64 0, .int .i64 0, .slice none 0 0, .slice none 0 0, .int .i64 0, .int .i64 0, .int .i64 0, .int .i64 0, .int .i64 0, .int .i64 0, .slice none 0 0, .slice none 0 0, .int .i64 0, .int .i64 0, .int .i64 0, .int .i64 0, .int .i64 0, .int .i64 0, .int .i64 0, .int .i64 0, .int .i64 0, .int .i64 0, .int .i64 0, .slice none 0 0, .slice none 0 0, .slice none 0 0, .int .i64 0, .int .i64 0, .int .i64 0, .int .i64 0, .int .i64 0, .int .i64 0, .int .i64 0] 44)).cell? ⟨wr.heap.size, 2, none⟩ = some (.int .i64 bk) ∧ (w8.alloc (.cells #[.string ⟨#[]⟩, .int .i64 0, .int .i64 0, .int .i64 0, .int .i64 0, .int .i64 0, .int .i64 0, .int .i64 0, .int .i64 0, .int .i64 0, .slice none 0 0, .slice none 0 0, .int .i64 0, .int .i64 0, .int .i64 0, .int .i64 0, .int .i64 0, .int .i64 0, .slice none 0 0, .slice none 0 0, .int .i64 0, .int .i64 0, .int .i64 0, .int .i64 0, .int .i64 0, .int .i64 0, .int .i64 0, .int .i64 0, .int .i64 0, .int .i64 0, .int .i64 0, .slice none 0 0, .slice none 0 0, .slice none 0 0, .int .i64 0, .int .i64 0, .int .i64 0, .int .i64 0, .int .i64 0, .int .i64 0, .int .i64 0] 44)).cell? ⟨wr.heap.size, 3, none⟩ = some (.int .i64 pm) ∧ (w8.alloc (.cells #[.string ⟨#[]⟩, .int .i64 0, .int .i64 0, .int .i64 0, .int .i64 0, .int .i64 0, .int .i64 0, .int .i64 0, .int .i64 0, .int .i64 0, .slice none 0 0, .slice none 0 0, .int .i64 0, .int .i64 0, .int .i64 0, .int .i64 0, .int .i64 0, .int .i64 0, .slice none 0 0, .slice none 0 0, .int .i64 0, .int .i64 0, .int .i64 0, .int .i64 0, .int .i64 0, .int .i64 0, .int .i64 0, .int .i64 0, .int .i64 0, .int .i64 0, .int .i64 0, .slice none 0 0, .slice none 0 0, .slice none 0 0, .int .i64 0, .int .i64 0, .int .i64 0, .int .i64 0, .int .i64 0, .int .i64 0, .int .i64 0] 44)).cell? ⟨wr.heap.size, 4, none⟩ = some (.int .i64 jd) ∧ (w8.alloc (.cells #[.string ⟨#[]⟩, .int .i64 0, .int .i64 0, .int .i64 0, .int .i64 0, .int .i64 0, .int .i64 0, .int .i64 0, .int .i64 0, .int .i64 0, .slice none 0 0, .slice none 0 0, .int .i64 0, .int .i64 0, .int .i64 0, .int .i64 0, .int .i64 0, .int .i64 0, .slice none 0 0, .slice none 0 0, .int .i64 0, .int .i64 0, .int .i64 0, .int .i64 0, .int .i64 0, .int .i64 0, .int .i64 0, .int .i64 0, .int .i64 0, .int .i64 0, .int .i64 0, .slice none 0 0, .slice none 0 0, .slice none 0 0, .int .i64 0, .int .i64 0, .int .i64 0, .int .i64 0, .int .i64 0, .int .i64 0, .int .i64 0] 44)).cell? ⟨wr.heap.size, 5, none⟩ = some (.int .i64 cp) ∧ (w8.alloc (.cells #[.string ⟨#[]⟩, .int .i64 0, .int .i64 0, .int .i64 0, .int .i64 0, .int .i64 0, .int .i64 0, .int .i64 0, .int .i64 0, .int .i64 0, .slice none 0 0, .slice none 0 0, .int .i64 0, .int .i64 0, .int .i64 0, .int .i64 0, .int .i64 0, .int .i64 0, .slice none 0 0, .slice none 0 0, .int .i64 0, .int .i64 0, .int .i64 0, .int .i64 0, .int .i64 0, .int .i64 0, .int .i64 0, .int .i64 0, .int .i64 0, .int .i64 0, .int .i64 0, .slice none 0 0, .slice none 0 0, .slice none 0 0, .int .i64 0, .int .i64 0, .int .i64 0, .int .i64 0, .int .i64 0, .int .i64 0, .int .i64 0] 44)).cell? ⟨wr.heap.size, 6, none⟩ = some (.int .i64 lf) ∧ (w8.alloc (.cells #[.string ⟨#[]⟩, .int .i64 0, .int .i64 0, .int .i64 0, .int .i64 0, .int .i64 0, .int .i64 0, .int .i64 0, .int .i64 0, .int .i64 0, .slice none 0 0, .slice none 0 0, .int .i64 0, .int .i64 0, .int .i64 0, .int .i64 0, .int .i64 0, .int .i64 0, .slice none 0 0, .slice none 0 0, .int .i64 0, .int .i64 0, .int .i64 0, .int .i64 0, .int .i64 0, .int .i64 0, .int .i64 0, .int .i64 0, .int .i64 0, .int .i64 0, .int .i64 0, .slice none 0 0, .slice none 0 0, .slice none 0 0, .int .i64 0, .int .i64 0, .int .i64 0, .int .i64 0, .int .i64 0, .int .i64 0, .int .i64 0] 44)).cell? ⟨wr.heap.size, 7, none⟩ = some (.int .i64 tu) ∧ (w8.alloc (.cells #[.string ⟨#[]⟩, .int .i64 0, .int .i64 0, .int .i64 0, .int .i64 0, .int .i64 0, .int .i64 0, .int .i64 0, .int .i64 0, .int .i64 0, .slice none 0 0, .slice none 0 0, .int .i64 0, .int .i64 0, .int .i64 0, .int .i64 0, .int .i64 0, .int .i64 0, .slice none 0 0, .slice none 0 0, .int .i64 0, .int .i64 0, .int .i64 0, .int .i64 0, .int .i64 0, .int .i64 0, .int .i64 0, .int .i64 0, .int .i64 0, .int .i64 0, .int .i64 0, .slice none 0 0, .slice none 0 0, .slice none 0 0, .int .i64 0, .int .i64 0, .int .i64 0, .int .i64 0, .int .i64 0, .int .i64 0, .int .i64 0] 44)).cell? ⟨wr.heap.size, 8, none⟩ = some (.int .i64 0) := ⟨cell_keep sce.1 ((Below.refl _ _).alloc (Nat.le_refl _) _), cell_keep sce.2.1 ((Below.refl _ _).alloc (Nat.le_refl _) _), cell_keep sce.2.2.1 ((Below.refl _ _).alloc (Nat.le_refl _) _), cell_keep sce.2.2.2.1 ((Below.refl _ _).alloc (Nat.le_refl _) _), cell_keep sce.2.2.2.2.1 ((Below.refl _ _).alloc (Nat.le_refl _) _), cell_keep sce.2.2.2.2.2.1 ((Below.refl _ _).alloc (Nat.le_refl _) _), cell_keep sce.2.2.2.2.2.2.1 ((Below.refl _ _).alloc (Nat.le_refl _) _), cell_keep sce.2.2.2.2.2.2.2.1 ((Below.refl _ _).alloc (Nat.le_refl _) _), cell_keep sce.2.2.2.2.2.2.2.2 ((Below.refl _ _).alloc (Nat.le_refl _) _)⟩
            refine hK.out _ _ (.inr scf) ?_
            clear hK K'
            try simp only [Act.put, List.setIfInBounds_toArray, List.set_cons_zero, List.set_cons_succ]
            have hg := heap_alloc_last w8 (.cells #[.string ⟨#[]⟩, .int .i64 0, .int .i64 0, .int .i64 0, .int .i64 0, .int .i64 0, .int .i64 0, .int .i64 0, .int .i64 0, .int .i64 0, .slice none 0 0, .slice none 0 0, .int .i64 0, .int .i64 0, .int .i64 0, .int .i64 0, .int .i64 0, .int .i64 0, .slice none 0 0, .slice none 0 0, .int .i64 0, .int .i64 0, .int .i64 0, .int .i64 0, .int .i64 0, .int .i64 0, .int .i64 0, .int .i64 0, .int .i64 0, .int .i64 0, .int .i64 0, .slice none 0 0, .slice none 0 0, .slice none 0 0, .int .i64 0, .int .i64 0, .int .i64 0, .int .i64 0, .int .i64 0, .int .i64 0, .int .i64 0] 44)
            refine' AnyTill.one (i := 12) (o := _) (by kernel_rfl) ?ho12yesst (fun K' hK => ?hh12yesst)
            case ho12yesst => (simp only [List.getElem?_toArray, List.getElem?_cons_succ, List.getElem?_cons_zero]; rfl)
            rw [if_pos (by rfl)]
            refine wp_store_row 44 (.tmp 9) (.tmp 80) rfl w8.heap.size P rfl rfl _ _ hg (by rw [PC.out.size]; kernel_rfl) (by rw [PC.out.size]; rfl) PC.out.one ?_
            refine hK.out _ _ (.inr ⟨set_far scf.1 (by have := hb8.size; have := LTX.out; omega), set_far scf.2.1 (by have := hb8.size; have := LTX.out; omega), set_far scf.2.2.1 (by have := hb8.size; have := LTX.out; omega), set_far scf.2.2.2.1 (by have := hb8.size; have := LTX.out; omega), set_far scf.2.2.2.2.1 (by have := hb8.size; have := LTX.out; omega), set_far scf.2.2.2.2.2.1 (by have := hb8.size; have := LTX.out; omega), set_far scf.2.2.2.2.2.2.1 (by have := hb8.size; have := LTX.out; omega), set_far scf.2.2.2.2.2.2.2.1 (by have := hb8.size; have := LTX.out; omega), set_far scf.2.2.2.2.2.2.2.2 (by have := hb8.size; have := LTX.out; omega)⟩) ?_
            clear hK K'
            try simp only [Act.put]
            refine AnyTill.take (i := 13) (v := ?_) (by simp only [List.getElem?_toArray, List.getElem?_cons_succ, List.getElem?_cons_zero]; rfl) (by kernel_rfl) (by kernel_rfl) (by kernel_rfl) (by kernel_rfl) (fun _ _ _ h => h) (Or.inl ⟨by rfl, ?_⟩) ⟨set_far scf.1 (by have := hb8.size; have := LTX.out; omega), set_far scf.2.1 (by have := hb8.size; have := LTX.out; omega), set_far scf.2.2.1 (by have := hb8.size; have := LTX.out; omega), set_far scf.2.2.2.1 (by have := hb8.size; have := LTX.out; omega), set_far scf.2.2.2.2.1 (by have := hb8.size; have := LTX.out; omega), set_far scf.2.2.2.2.2.1 (by have := hb8.size; have := LTX.out; omega), set_far scf.2.2.2.2.2.2.1 (by have := hb8.size; have := LTX.out; omega), set_far scf.2.2.2.2.2.2.2.1 (by have := hb8.size; have := LTX.out; omega), set_far scf.2.2.2.2.2.2.2.2 (by have := hb8.size; have := LTX.out; omega)⟩ ?_
            rotate_left
            · intro w' hw'; (try dsimp only at hw'); go_simp <;> with_reducible rfl
            try simp only [Act.put, List.setIfInBounds_toArray, List.set_cons_zero, List.set_cons_succ]
            refine AnyTill.take (i := 14) (v := ?_) (by simp only [List.getElem?_toArray, List.getElem?_cons_succ, List.getElem?_cons_zero]; rfl) (by kernel_rfl) (by kernel_rfl) (by kernel_rfl) (by kernel_rfl) (fun _ _ _ h => h) (Or.inl ⟨by rfl, ?_⟩) ⟨set_far scf.1 (by have := hb8.size; have := LTX.out; omega), set_far scf.2.1 (by have := hb8.size; have := LTX.out; omega), set_far scf.2.2.1 (by have := hb8.size; have := LTX.out; omega), set_far scf.2.2.2.1 (by have := hb8.size; have := LTX.out; omega), set_far scf.2.2.2.2.1 (by have := hb8.size; have := LTX.out; omega), set_far scf.2.2.2.2.2.1 (by have := hb8.size; have := LTX.out; omega), set_far scf.2.2.2.2.2.2.1 (by have := hb8.size; have := LTX.out; omega), set_far scf.2.2.2.2.2.2.2.1 (by have := hb8.size; have := LTX.out; omega), set_far scf.2.2.2.2.2.2.2.2 (by have := hb8.size; have := LTX.out; omega)⟩ ?_
            rotate_left
            · intro w' hw'; (try dsimp only at hw'); go_simp <;> with_reducible rfl
            try simp only [Act.put, List.setIfInBounds_toArray, List.set_cons_zero, List.set_cons_succ]
            refine AnyTill.done (by kernel_rfl) ?_ _
            refine NoPanic.normal ?_

            have kz := below_setRow ((KX.out.trans (hb8.mono KX.out.size)).alloc (by have := KX.out.size; have := hb8.size; omega) (.cells #[.string ⟨#[]⟩, .int .i64 0, .int .i64 0, .int .i64 0, .int .i64 0, .int .i64 0, .int .i64 0, .int .i64 0, .int .i64 0, .int .i64 0, .slice none 0 0, .slice none 0 0, .int .i64 0, .int .i64 0, .int .i64 0, .int .i64 0, .int .i64 0, .int .i64 0, .slice none 0 0, .slice none 0 0, .int .i64 0, .int .i64 0, .int .i64 0, .int .i64 0, .int .i64 0, .int .i64 0, .int .i64 0, .int .i64 0, .int .i64 0, .int .i64 0, .int .i64 0, .slice none 0 0, .slice none 0 0, .slice none 0 0, .int .i64 0, .int .i64 0, .int .i64 0, .int .i64 0, .int .i64 0, .int .i64 0, .int .i64 0] 44)) (g := w8.heap.size) (by have := KX.out.size; have := hb8.size; omega) P
            have cz := below_setRow ((CX.out.trans (hb8.mono CX.out.size)).alloc (by have := CX.out.size; have := hb8.size; omega) (.cells #[.string ⟨#[]⟩, .int .i64 0, .int .i64 0, .int .i64 0, .int .i64 0, .int .i64 0, .int .i64 0, .int .i64 0, .int .i64 0, .int .i64 0, .slice none 0 0, .slice none 0 0, .int .i64 0, .int .i64 0, .int .i64 0, .int .i64 0, .int .i64 0, .int .i64 0, .slice none 0 0, .slice none 0 0, .int .i64 0, .int .i64 0, .int .i64 0, .int .i64 0, .int .i64 0, .int .i64 0, .int .i64 0, .int .i64 0, .int .i64 0, .int .i64 0, .int .i64 0, .slice none 0 0, .slice none 0 0, .slice none 0 0, .int .i64 0, .int .i64 0, .int .i64 0, .int .i64 0, .int .i64 0, .int .i64 0, .int .i64 0] 44)) (g := w8.heap.size) (by have := CX.out.size; have := hb8.size; omega) P
            have x8 := set_far (P := P) scf.2.2.2.2.2.2.2.2 (show wr.heap.size ≠ w8.heap.size by have := hb8.size; have := LTX.out; omega)
            obtain ⟨wz, hwz⟩ : ∃ wz, (w8.alloc (.cells #[.string ⟨#[]⟩, .int .i64 0, .int .i64 0, .int .i64 0, .int .i64 0, .int .i64 0, .int .i64 0, .int .i64 0, .int .i64 0, .int .i64 0, .slice none 0 0, .slice none 0 0, .int .i64 0, .int .i64 0, .int .i64 0, .int .i64 0, .int .i64 0, .int .i64 0, .slice none 0 0, .slice none 0 0, .int .i64 0, .int .i64 0, .int .i64 0, .int .i64 0, .int .i64 0, .int .i64 0, .int .i64 0, .int .i64 0, .int .i64 0, .int .i64 0, .int .i64 0, .slice none 0 0, .slice none 0 0, .slice none 0 0, .int .i64 0, .int .i64 0, .int .i64 0, .int .i64 0, .int .i64 0, .int .i64 0, .int .i64 0] 44)).setRow w8.heap.size P = wz := ⟨_, rfl⟩
            have HWZ := Lib.hid hwz
            rw [hwz] at  x8 kz cz
            have KZ := Lib.hid kz
            have CZ := Lib.hid cz
            clear hwz kz cz hb8 sce scf scd hg PC 
            rw [HWZ.out]
            clear HWZ
            go_wp2
            go_roundg (14 - (k + 1))
            case measure => have := HGK.out; omega
            case rel => exact ⟨k + 1, by omega, rfl, by go_num, KZ.out, CZ.out⟩
          case yesv =>
            go_simp
            have scb : (wd.alloc (.cells #[.string ⟨#[]⟩, .int .i64 0, .int .i64 0, .int .i64 0, .int .i64 0, .int .i64 0, .int .i64 0, .int .i64 0, .int .i64 0, .int .i64 0, .slice none 0 0, .slice none 0 0, .int .i64 0, .int .i64 0, .int .i64 0, .int .i64 0, .int .i64 0, .int .i64 0, .slice none 0 0, .slice none 0 0, .int .i64 0, .int .i64 0, .int .i64 0, .int .i64 0, .int .i64 0, .int .i64 0, .int .i64 0, .int .i64 0, .int .i64 0, .int .i64 0, .int .i64 0, .slice none 0 0, .slice none 0 0, .slice none 0 0, .int .i64 0, .int .i64 0, .int .i64 0, .int .i64 0, .int .i64 0, .int .i64 0, .int .i64 0] 44)).cell? ⟨wr.heap.size, 0, none⟩ = some (.string j) ∧ (wd.alloc (.cells #[.string ⟨#[]⟩, .int .i64 0, .int .i64 0, .int .i64 0, .int .i64 0, .int .i64 0, .int .i64 0, .int .i64 0, .int .i64 0, .int .i64 0, .slice none 0 0, .slice none 0 0, .int .i64 0, .int .i64 0, .int .i64 0, .int .i64 0, .int .i64 0, .int .i64 0, .slice none 0 0, .slice none 0 0, .int .i64 0, .int .i64 0, .int .i64 0, .int .i64 0, .int .i64 0, .int .i64 0, .int .i64 0, .int .i64 0, .int .i64 0, .int .i64 0, .int .i64 0, .slice none 0 0, .slice none 0 0, .slice none 0 0, .int .i64 0, .int .i64 0, .int .i64 0, .int .i64 0, .int .i64 0, .int .i64 0, .int .i64 0] 44)).cell? ⟨wr.heap.size, 1, none⟩ = some (.int .i64 p) ∧ (wd.alloc (.cells #[.string ⟨#[]⟩, .int .i64 0, .int .i64 0, .int .i64 0, .int .i64 0, .int .i64 0, .int .i64 0, .int .i64 0, .int .i64 0, .int .i64 0, .slice none 0 0, .slice none 0 0, .int .i64 0, .int .i64 0, .int .i64 0, .int .i64 0, .int .i64 0, .int .i64 0, .slice none 0 0, .slice none 0 0, .int .i64 0, .int .i64 0, .int .i64 0, .int .i64 0, .int .i64 0, .int .i64 0, .int .i64 0, .int .i64 0, .int .i64 0, .int .i64 0, .int .i64 0, .slice none 0 0, .slice none 0 0, .slice none 0 0, .int .i64 0, .int .i64 0, .int .i64 0, .int .i64 0, .int .i64 0, .int .i64 0, .int .i64 0] 44)).cell? ⟨wr.heap.size, 2, none⟩ = some (.int .i64 bk) ∧ (wd.alloc (.cells #[.string ⟨#[]⟩, .int .i64 0, .int .i64 0, .int .i64 0, .int .i64 0, .int .i64 0, .int .i64 0, .int .i64 0, .int .i64 0, .int .i64 0, .slice none 0 0, .slice none 0 0, .int .i64 0, .int .i64 0, .int .i64 0, .int .i64 0, .int .i64 0, .int .i64 0, .slice none 0 0, .slice none 0 0, .int .i64 0, .int .i64 0, .int .i64 0, .int .i64 0, .int .i64 0, .int .i64 0, .int .i64 0, .int .i64 0, .int .i64 0, .int .i64 0, .int .i64 0, .slice none 0 0, .slice none 0 0, .slice none 0 0, .int .i64 0, .int .i64 0, .int .i64 0, .int .i64 0, .int .i64 0, .int .i64 0, .int .i64 0] 44)).cell? ⟨wr.heap.size, 3, none⟩ = some (.int .i64 pm) ∧ (wd.alloc (.cells #[.string ⟨#[]⟩, .int .i64 0, .int .i64 0, .int .i64 0, .int .i64 0, .int .i64 0, .int .i64 0, .int .i64 0, .int .i64 0, .int .i64 0, .slice none 0 0, .slice none 0 0, .int .i64 0, .int .i64 0, .int .i64 0, .int .i64 0, .int .i64 0, .int .i64 0, .slice none 0 0, .slice none 0 0, .int .i64 0, .int .i64 0, .int .i64 0, .int .i64 0, .int .i64 0, .int .i64 0, .int .i64 0, .int .i64 0, .int .i64 0, .int .i64 0, .int .i64 0, .slice none 0 0, .slice none 0 0, .slice none 0 0, .int .i64 0, .int .i64 0, .int .i64 0, .int .i64 0, .int .i64 0, .int .i64 0, .int .i64 0] 44)).cell? ⟨wr.heap.size, 4, none⟩ = some (.int .i64 jd) ∧ (wd.alloc (.cells #[.string ⟨#[]⟩, .int .i64 0, .int .i64 0, .int .i64 0, .int .i64 0, .int .i64 0, .int .i64 0, .int .i64 0, .int .i64 0, .int .i64 0, .slice none 0 0, .slice none 0 0, .int .i64 0, .int .i64 0, .int .i64 0, .int .i64 0, .int .i64 0, .int .i64 0, .slice none 0 0, .slice none 0 0, .int .i64 0, .int .i64 0, .int .i64 0, .int .i64 0, .int .i64 0, .int .i64 0, .int .i64 0, .int .i64 0, .int .i64 0, .int .i64 0, .int .i64 0, .slice none 0 0, .slice none 0 0, .slice none 0 0, .int .i64 0, .int .i64 0, .int .i64 0, .int .i64 0, .int .i64 0, .int .i64 0, .int .i64 0] 44)).cell? ⟨wr.heap.size, 5, none⟩ = some (.int .i64 cp) ∧ (wd.alloc (.cells #[.string ⟨#[]⟩, .int .i64 0, .int .i64 0, .int .i64 0, .int .i64 0, .int .i64 0, .int .i64 0, .int .i64 0, .int .i64 0, .int .i64 0, .slice none 0 0, .slice none 0 0, .int .i64 0, .int .i64 0, .int .i64 0, .int .i64 0, .int .i64 0, .int .i64 0, .slice none 0 0, .slice none 0 0, .int .i64 0, .int .i64 0, .int .i64 0, .int .i64 0, .int .i64 0, .int .i64 0, .int .i64 0, .int .i64 0, .int .i64 0, .int .i64 0, .int .i64 0, .slice none 0 0, .slice none 0 0, .slice none 0 0, .int .i64 0, .int .i64 0, .int .i64 0, .int .i64 0, .int .i64 0, .int .i64 0, .int .i64 0] 44)).cell? ⟨wr.heap.size, 6, none⟩ = some (.int .i64 lf) ∧ (wd.alloc (.cells #[.string ⟨#[]⟩, .int .i64 0, .int .i64 0, .int .i64 0, .int .i64 0, .int .i64 0, .int .i64 0, .int .i64 0, .int .i64 0, .int .i64 0, .slice none 0 0, .slice none 0 0, .int .i64 0, .int .i64 0, .int .i64 0, .int .i64 0, .int .i64 0, .int .i64 0, .slice none 0 0, .slice none 0 0, .int .i64 0, .int .i64 0, .int .i64 0, .int .i64 0, .int .i64 0, .int .i64 0, .int .i64 0, .int .i64 0, .int .i64 0, .int .i64 0, .int .i64 0, .slice none 0 0, .slice none 0 0, .slice none 0 0, .int .i64 0, .int .i64 0, .int .i64 0, .int .i64 0, .int .i64 0, .int .i64 0, .int .i64 0] 44)).cell? ⟨wr.heap.size, 7, none⟩ = some (.int .i64 tu) ∧ (wd.alloc (.cells #[.string ⟨#[]⟩, .int .i64 0, .int .i64 0, .int .i64 0, .int .i64 0, .int .i64 0, .int .i64 0, .int .i64 0, .int .i64 0, .int .i64 0, .slice none 0 0, .slice none 0 0, .int .i64 0, .int .i64 0, .int .i64 0, .int .i64 0, .int .i64 0, .int .i64 0, .slice none 0 0, .slice none 0 0, .int .i64 0, .int .i64 0, .int .i64 0, .int .i64 0, .int .i64 0, .int .i64 0, .int .i64 0, .int .i64 0, .int .i64 0, .int .i64 0, .int .i64 0, .slice none 0 0, .slice none 0 0, .slice none 0 0, .int .i64 0, .int .i64 0, .int .i64 0, .int .i64 0, .int .i64 0, .int .i64 0, .int .i64 0] 44)).cell? ⟨wr.heap.size, 8, none⟩ = some (.int .i64 0) := ⟨cell_keep scd.1 ((Below.refl _ _).alloc (Nat.le_refl _) _), cell_keep scd.2.1 ((Below.refl _ _).alloc (Nat.le_refl _) _), cell_keep scd.2.2.1 ((Below.refl _ _).alloc (Nat.le_refl _) _), cell_keep scd.2.2.2.1 ((Below.refl _ _).alloc (Nat.le_refl _) _), cell_keep scd.2.2.2.2.1 ((Below.refl _ _).alloc (Nat.le_refl _) _), cell_keep scd.2.2.2.2.2.1 ((Below.refl _ _).alloc (Nat.le_refl _) _), cell_keep scd.2.2.2.2.2.2.1 ((Below.refl _ _).alloc (Nat.le_refl _) _), cell_keep scd.2.2.2.2.2.2.2.1 ((Below.refl _ _).alloc (Nat.le_refl _) _), cell_keep scd.2.2.2.2.2.2.2.2 ((Below.refl _ _).alloc (Nat.le_refl _) _)⟩
            have hg0 := heap_alloc_last wd (.cells #[.string ⟨#[]⟩, .int .i64 0, .int .i64 0, .int .i64 0, .int .i64 0, .int .i64 0, .int .i64 0, .int .i64 0, .int .i64 0, .int .i64 0, .slice none 0 0, .slice none 0 0, .int .i64 0, .int .i64 0, .int .i64 0, .int .i64 0, .int .i64 0, .int .i64 0, .slice none 0 0, .slice none 0 0, .int .i64 0, .int .i64 0, .int .i64 0, .int .i64 0, .int .i64 0, .int .i64 0, .int .i64 0, .int .i64 0, .int .i64 0, .int .i64 0, .int .i64 0, .slice none 0 0, .slice none 0 0, .slice none 0 0, .int .i64 0, .int .i64 0, .int .i64 0, .int .i64 0, .int .i64 0, .int .i64 0, .int .i64 0] 44)
            have bb := (Below.refl wd.heap.size wd).alloc (Nat.le_refl _) (.cells #[.string ⟨#[]⟩, .int .i64 0, .int .i64 0, .int .i64 0, .int .i64 0, .int .i64 0, .int .i64 0, .int .i64 0, .int .i64 0, .int .i64 0, .slice none 0 0, .slice none 0 0, .int .i64 0, .int .i64 0, .int .i64 0, .int .i64 0, .int .i64 0, .int .i64 0, .slice none 0 0, .slice none 0 0, .int .i64 0, .int .i64 0, .int .i64 0, .int .i64 0, .int .i64 0, .int .i64 0, .int .i64 0, .int .i64 0, .int .i64 0, .int .i64 0, .int .i64 0, .slice none 0 0, .slice none 0 0, .slice none 0 0, .int .i64 0, .int .i64 0, .int .i64 0, .int .i64 0, .int .i64 0, .int .i64 0, .int .i64 0] 44)
            have szb : (wd.alloc (.cells #[.string ⟨#[]⟩, .int .i64 0, .int .i64 0, .int .i64 0, .int .i64 0, .int .i64 0, .int .i64 0, .int .i64 0, .int .i64 0, .int .i64 0, .slice none 0 0, .slice none 0 0, .int .i64 0, .int .i64 0, .int .i64 0, .int .i64 0, .int .i64 0, .int .i64 0, .slice none 0 0, .slice none 0 0, .int .i64 0, .int .i64 0, .int .i64 0, .int .i64 0, .int .i64 0, .int .i64 0, .int .i64 0, .int .i64 0, .int .i64 0, .int .i64 0, .int .i64 0, .slice none 0 0, .slice none 0 0, .slice none 0 0, .int .i64 0, .int .i64 0, .int .i64 0, .int .i64 0, .int .i64 0, .int .i64 0, .int .i64 0] 44)).heap.size = wd.heap.size + 1 := by simp
            refine hK.out _ _ (.inr scb) ?_
            clear hK K'
            try simp only [Act.put, List.setIfInBounds_toArray, List.set_cons_zero, List.set_cons_succ]
            refine' AnyTill.one (i := 6) (o := _) (by kernel_rfl) ?ho6yesmkv (fun K' hK => ?hh6yesmkv)
            case ho6yesmkv => (simp only [List.getElem?_toArray, List.getElem?_cons_succ, List.getElem?_cons_zero]; rfl)
            go_simp
            (go_at_call 8; (refine (CM.out _ bb).mono ?_); rintro e w8 ⟨lb8, O8, ss, rfl, _, _, hb8⟩)
            have pc := pvc_of ⟨j, p, bk, pm, jd, cp, lf, tu⟩ MBal.none v ss
            unfold MBal.none at pc
            obtain ⟨P, hP⟩ : ∃ P, (pvL ⟨j, p, bk, pm, jd, cp, lf, tu⟩ ⟨-1, 0, fun _ => ⟨0, 0, 0⟩, fun _ => 0, 0, 0, 0, 0, 0⟩ v ss).toArray = P := ⟨_, rfl⟩
            rw [hP] at pc
            rw [hP]

            have PC := Lib.hid pc
            have sce : w8.cell? ⟨wr.heap.size, 0, none⟩ = some (.string j) ∧ w8.cell? ⟨wr.heap.size, 1, none⟩ = some (.int .i64 p) ∧ w8.cell? ⟨wr.heap.size, 2, none⟩ = some (.int .i64 bk) ∧ w8.cell? ⟨wr.heap.size, 3, none⟩ = some (.int .i64 pm) ∧ w8.cell? ⟨wr.heap.size, 4, none⟩ = some (.int .i64 jd) ∧ w8.cell? ⟨wr.heap.size, 5, none⟩ = some (.int .i64 cp) ∧ w8.cell? ⟨wr.heap.size, 6, none⟩ = some (.int .i64 lf) ∧ w8.cell? ⟨wr.heap.size, 7, none⟩ = some (.int .i64 tu) ∧ w8.cell? ⟨wr.heap.size, 8, none⟩ = some (.int .i64 0) := ⟨cell_keep scb.1 hb8, cell_keep scb.2.1 hb8, cell_keep scb.2.2.1 hb8, cell_keep scb.2.2.2.1 hb8, cell_keep scb.2.2.2.2.1 hb8, cell_keep scb.2.2.2.2.2.1 hb8, cell_keep scb.2.2.2.2.2.2.1 hb8, cell_keep scb.2.2.2.2.2.2.2.1 hb8, cell_keep scb.2.2.2.2.2.2.2.2 hb8⟩
            refine hK.out _ _ (.inr sce) ?_
            clear hK K' hP pc
            try simp only [Act.put, List.setIfInBounds_toArray, List.set_cons_zero, List.set_cons_succ]
            refine AnyTill.take (i := 7) (v := ?_) (by simp only [List.getElem?_toArray, List.getElem?_cons_succ, List.getElem?_cons_zero]; rfl) (by kernel_rfl) (by kernel_rfl) (by kernel_rfl) (by kernel_rfl) (fun _ _ _ h => h) (Or.inl ⟨by rfl, ?_⟩) sce ?_
            rotate_left
            · intro w' hw'; (try dsimp only at hw'); go_simp <;> with_reducible rfl
            try simp only [Act.put, List.setIfInBounds_toArray, List.set_cons_zero, List.set_cons_succ]
            refine AnyTill.take (i := 8) (v := ?_) (by simp only [List.getElem?_toArray, List.getElem?_cons_succ, List.getElem?_cons_zero]; rfl) (by kernel_rfl) (by kernel_rfl) (by kernel_rfl) (by kernel_rfl) (fun _ _ _ h => h) (Or.inl ⟨by rfl, ?_⟩) sce ?_
            rotate_left
            · intro w' hw'; (try dsimp only at hw'); go_simp <;> with_reducible rfl
            try simp only [Act.put, List.setIfInBounds_toArray, List.set_cons_zero, List.set_cons_succ]
            refine AnyTill.take (i := 9) (v := ?_) (by simp only [List.getElem?_toArray, List.getElem?_cons_succ, List.getElem?_cons_zero]; rfl) (by kernel_rfl) (by kernel_rfl) (by kernel_rfl) (by kernel_rfl) (fun _ _ _ h => h) (Or.inl ⟨by rfl, ?_⟩) sce ?_
            rotate_left
            · intro w' hw'; (try dsimp only at hw'); go_simp <;> with_reducible rfl
            try simp only [Act.put, List.setIfInBounds_toArray, List.set_cons_zero, List.set_cons_succ]
            refine AnyTill.take (i := 10) (v := ?_) (by simp only [List.getElem?_toArray, List.getElem?_cons_succ, List.getElem?_cons_zero]; rfl) (by kernel_rfl) (by kernel_rfl) (by kernel_rfl) (by kernel_rfl) (fun _ _ _ h => h) (Or.inl ⟨by rfl, ?_⟩) sce ?_
            rotate_left
            · intro w' hw'; (try dsimp only at hw'); go_simp <;> with_reducible rfl
            try simp only [Act.put, List.setIfInBounds_toArray, List.set_cons_zero, List.set_cons_succ]
            have hg := (hb8.block wd.heap.size (by omega)).trans hg0
            refine' AnyTill.one (i := 12) (o := _) (by kernel_rfl) ?ho12yess2v (fun K' hK => ?hh12yess2v)
            case ho12yess2v => (simp only [List.getElem?_toArray, List.getElem?_cons_succ, List.getElem?_cons_zero]; rfl)
            rw [if_pos (by rfl)]
            refine wp_store_row 44 (.tmp 9) (.tmp 80) rfl wd.heap.size P rfl rfl _ _ hg (by rw [PC.out.size]; kernel_rfl) (by rw [PC.out.size]; rfl) PC.out.one ?_
            refine hK.out _ _ (.inr ⟨set_far sce.1 (by have := LTX.out; omega), set_far sce.2.1 (by have := LTX.out; omega), set_far sce.2.2.1 (by have := LTX.out; omega), set_far sce.2.2.2.1 (by have := LTX.out; omega), set_far sce.2.2.2.2.1 (by have := LTX.out; omega), set_far sce.2.2.2.2.2.1 (by have := LTX.out; omega), set_far sce.2.2.2.2.2.2.1 (by have := LTX.out; omega), set_far sce.2.2.2.2.2.2.2.1 (by have := LTX.out; omega), set_far sce.2.2.2.2.2.2.2.2 (by have := LTX.out; omega)⟩) ?_
            clear hK K'
            try simp only [Act.put]
            refine AnyTill.take (i := 13) (v := ?_) (by simp only [List.getElem?_toArray, List.getElem?_cons_succ, List.getElem?_cons_zero]; rfl) (by kernel_rfl) (by kernel_rfl) (by kernel_rfl) (by kernel_rfl) (fun _ _ _ h => h) (Or.inl ⟨by rfl, ?_⟩) ⟨set_far sce.1 (by have := LTX.out; omega), set_far sce.2.1 (by have := LTX.out; omega), set_far sce.2.2.1 (by have := LTX.out; omega), set_far sce.2.2.2.1 (by have := LTX.out; omega), set_far sce.2.2.2.2.1 (by have := LTX.out; omega), set_far sce.2.2.2.2.2.1 (by have := LTX.out; omega), set_far sce.2.2.2.2.2.2.1 (by have := LTX.out; omega), set_far sce.2.2.2.2.2.2.2.1 (by have := LTX.out; omega), set_far sce.2.2.2.2.2.2.2.2 (by have := LTX.out; omega)⟩ ?_
            rotate_left
            · intro w' hw'; (try dsimp only at hw'); go_simp <;> with_reducible rfl
            try simp only [Act.put, List.setIfInBounds_toArray, List.set_cons_zero, List.set_cons_succ]
            refine AnyTill.take (i := 14) (v := ?_) (by simp only [List.getElem?_toArray, List.getElem?_cons_succ, List.getElem?_cons_zero]; rfl) (by kernel_rfl) (by kernel_rfl) (by kernel_rfl) (by kernel_rfl) (fun _ _ _ h => h) (Or.inl ⟨by rfl, ?_⟩) ⟨set_far sce.1 (by have := LTX.out; omega), set_far sce.2.1 (by have := LTX.out; omega), set_far sce.2.2.1 (by have := LTX.out; omega), set_far sce.2.2.2.1 (by have := LTX.out; omega), set_far sce.2.2.2.2.1 (by have := LTX.out; omega), set_far sce.2.2.2.2.2.1 (by have := LTX.out; omega), set_far sce.2.2.2.2.2.2.1 (by have := LTX.out; omega), set_far sce.2.2.2.2.2.2.2.1 (by have := LTX.out; omega), set_far sce.2.2.2.2.2.2.2.2 (by have := LTX.out; omega)⟩ ?_
            rotate_left
            · intro w' hw'; (try dsimp only at hw'); go_simp <;> with_reducible rfl
            try simp only [Act.put, List.setIfInBounds_toArray, List.set_cons_zero, List.set_cons_succ]
            refine AnyTill.done (by kernel_rfl) ?_ _
            refine NoPanic.normal ?_

            have kz := below_setRow (KX.out.trans ((bb.trans (hb8.mono bb.size)).mono KX.out.size)) (g := wd.heap.size) KX.out.size P
            have cz := below_setRow (CX.out.trans ((bb.trans (hb8.mono bb.size)).mono CX.out.size)) (g := wd.heap.size) CX.out.size P
            have x8 := set_far (P := P) sce.2.2.2.2.2.2.2.2 (show wr.heap.size ≠ wd.heap.size by have := LTX.out; omega)
            obtain ⟨wz, hwz⟩ : ∃ wz, w8.setRow wd.heap.size P = wz := ⟨_, rfl⟩
            have HWZ := Lib.hid hwz
            rw [hwz] at  x8 kz cz
            have KZ := Lib.hid kz
            have CZ := Lib.hid cz
            clear hwz kz cz hb8 sce scb scd hg hg0 bb szb PC 
            rw [HWZ.out]
            clear HWZ
            go_wp2
            go_roundg (14 - (k + 1))
            case measure => have := HGK.out; omega
            case rel => exact ⟨k + 1, by omega, rfl, by go_num, KZ.out, CZ.out⟩
        case yesy =>
            go_simp
            have scb : (wd.alloc (.cells #[.string ⟨#[]⟩, .int .i64 0, .int .i64 0, .int .i64 0, .int .i64 0, .int .i64 0, .int .i64 0, .int .i64 0, .int .i64 0, .int .i64 0, .slice none 0 0, .slice none 0 0, .int .i64 0, .int .i64 0, .int .i64 0, .int .i64 0, .int .i64 0, .int .i64 0, .slice none 0 0, .slice none 0 0, .int .i64 0, .int .i64 0, .int .i64 0, .int .i64 0, .int .i64 0, .int .i64 0, .int .i64 0, .int .i64 0, .int .i64 0, .int .i64 0, .int .i64 0, .slice none 0 0, .slice none 0 0, .slice none 0 0, .int .i64 0, .int .i64 0, .int .i64 0, .int .i64 0, .int .i64 0, .int .i64 0, .int .i64 0] 44)).cell? ⟨wr.heap.size, 0, none⟩ = some (.string j) ∧ (wd.alloc (.cells #[.string ⟨#[]⟩, .int .i64 0, .int .i64 0, .int .i64 0, .int .i64 0, .int .i64 0, .int .i64 0, .int .i64 0, .int .i64 0, .int .i64 0, .slice none 0 0, .slice none 0 0, .int .i64 0, .int .i64 0, .int .i64 0, .int .i64 0, .int .i64 0, .int .i64 0, .slice none 0 0, .slice none 0 0, .int .i64 0, .int .i64 0, .int .i64 0, .int .i64 0, .int .i64 0, .int .i64 0, .int .i64 0, .int .i64 0, .int .i64 0, .int .i64 0, .int .i64 0, .slice none 0 0, .slice none 0 0, .slice none 0 0, .int .i64 0, .int .i64 0, .int .i64 0, .int .i64 0, .int .i64 0, .int .i64 0, .int .i64 0] 44)).cell? ⟨wr.heap.size, 1, none⟩ = some (.int .i64 p) ∧ (wd.alloc (.cells #[.string ⟨#[]⟩, .int .i64 0, .int .i64 0, .int .i64 0, .int .i64 0, .int .i64 0, .int .i64 0, .int .i64 0, .int .i64 0, .int .i64 0, .slice none 0 0, .slice none 0 0, .int .i64 0, .int .i64 0, .int .i64 0, .int .i64 0, .int .i64 0, .int .i64 0, .slice none 0 0, .slice none 0 0, .int .i64 0, .int .i64 0, .int .i64 0, .int .i64 0, .int .i64 0, .int .i64 0, .int .i64 0, .int .i64 0, .int .i64 0, .int .i64 0, .int .i64 0, .slice none 0 0, .slice none 0 0, .slice none 0 0, .int .i64 0, .int .i64 0, .int .i64 0, .int .i64 0, .int .i64 0, .int .i64 0, .int .i64 0] 44)).cell? ⟨wr.heap.size, 2, none⟩ = some (.int .i64 bk) ∧ (wd.alloc (.cells #[.string ⟨#[]⟩, .int .i64 0, .int .i64 0, .int .i64 0, .int .i64 0, .int .i64 0, .int .i64 0, .int .i64 0, .int .i64 0, .int .i64 0, .slice none 0 0, .slice none 0 0, .int .i64 0, .int .i64 0, .int .i64 0, .int .i64 0, .int .i64 0, .int .i64 0, .slice none 0 0, .slice none 0 0, .int .i64 0, .int .i64 0, .int .i64 0, .int .i64 0, .int .i64 0, .int .i64 0, .int .i64 0, .int .i64 0, .int .i64 0, .int .i64 0, .int .i64 0, .slice none 0 0, .slice none 0 0, .slice none 0 0, .int .i64 0, .int .i64 0, .int .i64 0, .int .i64 0, .int .i64 0, .int .i64 0, .int .i64 0] 44)).cell? ⟨wr.heap.size, 3, none⟩ = some (.int .i64 pm) ∧ (wd.alloc (.cells #[.string ⟨#[]⟩, .int .i64 0, .int .i64 0, .int .i64 0, .int .i64 0, .int .i64 0, .int .i64 0, .int .i64 0, .int .i64 0, .int .i64 0, .slice none 0 0, .slice none 0 0, .int .i64 0, .int .i64 0, .int .i64 0, .int .i64 0, .int .i64 0, .int .i64 0, .slice none 0 0, .slice none 0 0, .int .i64 0, .int .i64 0, .int .i64 0, .int .i64 0, .int .i64 0, .int .i64 0, .int .i64 0, .int .i64 0, .int .i64 0, .int .i64 0, .int .i64 0, .slice none 0 0, .slice none 0 0, .slice none 0 0, .int .i64 0, .int .i64 0, .int .i64 0, .int .i64 0, .int .i64 0, .int .i64 0, .int .i64 0] 44)).cell? ⟨wr.heap.size, 4, none⟩ = some (.int .i64 jd) ∧ (wd.alloc (.cells #[.string ⟨#[]⟩, .int .i64 0, .int .i64 0, .int .i64 0, .int .i64 0, .int .i64 0, .int .i64 0, .int .i64 0, .int .i64 0, .int .i64 0, .slice none 0 0, .slice none 0 0, .int .i64 0, .int .i64 0, .int .i64 0, .int .i64 0, .int .i64 0, .int .i64 0, .slice none 0 0, .slice none 0 0, .int .i64 0, .int .i64 0, .int .i64 0, .int .i64 0, .int .i64 0, .int .i64 0, .int .i64 0, .int .i64 0, .int .i64 0, .int .i64 0, .int .i64 0, .slice none 0 0, .slice none 0 0, .slice none 0 0, .int .i64 0, .int .i64 0, .int .i64 0, .int .i64 0, .int .i64 0, .int .i64 0, .int .i64 0] 44)).cell? ⟨wr.heap.size, 5, none⟩ = some (.int .i64 cp) ∧ (wd.alloc (.cells #[.string ⟨#[]⟩, .int .i64 0, .int .i64 0, .int .i64 0, .int .i64 0, .int .i64 0, .int .i64 0, .int .i64 0, .int .i64 0, .int .i64 0, .slice none 0 0, .slice none 0 0, .int .i64 0, .int .i64 0, .int .i64 0, .int .i64 0, .int .i64 0, .int .i64 0, .slice none 0 0, .slice none 0 0, .int .i64 0, .int .i64 0, .int .i64 0, .int .i64 0, .int .i64 0, .int .i64 0, .int .i64 0, .int .i64 0, .int .i64 0, .int .i64 0, .int .i64 0, .slice none 0 0, .slice none 0 0, .slice none 0 0, .int .i64 0, .int .i64 0, .int .i64 0, .int .i64 0, .int .i64 0, .int .i64 0, .int .i64 0] 44)).cell? ⟨wr.heap.size, 6, none⟩ = some (.int .i64 lf) ∧ (wd.alloc (.cells #[.string ⟨#[]⟩, .int .i64 0, .int .i64 0, .int .i64 0, .int .i64 0, .int .i64 0, .int .i64 0, .int .i64 0, .int .i64 0, .int .i64 0, .slice none 0 0, .slice none 0 0, .int .i64 0, .int .i64 0, .int .i64 0, .int .i64 0, .int .i64 0, .int .i64 0, .slice none 0 0, .slice none 0 0, .int .i64 0, .int .i64 0, .int .i64 0, .int .i64 0, .int .i64 0, .int .i64 0, .int .i64 0, .int .i64 0, .int .i64 0, .int .i64 0, .int .i64 0, .slice none 0 0, .slice none 0 0, .slice none 0 0, .int .i64 0, .int .i64 0, .int .i64 0, .int .i64 0, .int .i64 0, .int .i64 0, .int .i64 0] 44)).cell? ⟨wr.heap.size, 7, none⟩ = some (.int .i64 tu) ∧ (wd.alloc (.cells #[.string ⟨#[]⟩, .int .i64 0, .int .i64 0, .int .i64 0, .int .i64 0, .int .i64 0, .int .i64 0, .int .i64 0, .int .i64 0, .int .i64 0, .slice none 0 0, .slice none 0 0, .int .i64 0, .int .i64 0, .int .i64 0, .int .i64 0, .int .i64 0, .int .i64 0, .slice none 0 0, .slice none 0 0, .int .i64 0, .int .i64 0, .int .i64 0, .int .i64 0, .int .i64 0, .int .i64 0, .int .i64 0, .int .i64 0, .int .i64 0, .int .i64 0, .int .i64 0, .slice none 0 0, .slice none 0 0, .slice none 0 0, .int .i64 0, .int .i64 0, .int .i64 0, .int .i64 0, .int .i64 0, .int .i64 0, .int .i64 0] 44)).cell? ⟨wr.heap.size, 8, none⟩ = some (.int .i64 0) := ⟨cell_keep scd.1 ((Below.refl _ _).alloc (Nat.le_refl _) _), cell_keep scd.2.1 ((Below.refl _ _).alloc (Nat.le_refl _) _), cell_keep scd.2.2.1 ((Below.refl _ _).alloc (Nat.le_refl _) _), cell_keep scd.2.2.2.1 ((Below.refl _ _).alloc (Nat.le_refl _) _), cell_keep scd.2.2.2.2.1 ((Below.refl _ _).alloc (Nat.le_refl _) _), cell_keep scd.2.2.2.2.2.1 ((Below.refl _ _).alloc (Nat.le_refl _) _), cell_keep scd.2.2.2.2.2.2.1 ((Below.refl _ _).alloc (Nat.le_refl _) _), cell_keep scd.2.2.2.2.2.2.2.1 ((Below.refl _ _).alloc (Nat.le_refl _) _), cell_keep scd.2.2.2.2.2.2.2.2 ((Below.refl _ _).alloc (Nat.le_refl _) _)⟩
            have hg0 := heap_alloc_last wd (.cells #[.string ⟨#[]⟩, .int .i64 0, .int .i64 0, .int .i64 0, .int .i64 0, .int .i64 0, .int .i64 0, .int .i64 0, .int .i64 0, .int .i64 0, .slice none 0 0, .slice none 0 0, .int .i64 0, .int .i64 0, .int .i64 0, .int .i64 0, .int .i64 0, .int .i64 0, .slice none 0 0, .slice none 0 0, .int .i64 0, .int .i64 0, .int .i64 0, .int .i64 0, .int .i64 0, .int .i64 0, .int .i64 0, .int .i64 0, .int .i64 0, .int .i64 0, .int .i64 0, .slice none 0 0, .slice none 0 0, .slice none 0 0, .int .i64 0, .int .i64 0, .int .i64 0, .int .i64 0, .int .i64 0, .int .i64 0, .int .i64 0] 44)
            have bb := (Below.refl wd.heap.size wd).alloc (Nat.le_refl _) (.cells #[.string ⟨#[]⟩, .int .i64 0, .int .i64 0, .int .i64 0, .int .i64 0, .int .i64 0, .int .i64 0, .int .i64 0, .int .i64 0, .int .i64 0, .slice none 0 0, .slice none 0 0, .int .i64 0, .int .i64 0, .int .i64 0, .int .i64 0, .int .i64 0, .int .i64 0, .slice none 0 0, .slice none 0 0, .int .i64 0, .int .i64 0, .int .i64 0, .int .i64 0, .int .i64 0, .int .i64 0, .int .i64 0, .int .i64 0, .int .i64 0, .int .i64 0, .int .i64 0, .slice none 0 0, .slice none 0 0, .slice none 0 0, .int .i64 0, .int .i64 0, .int .i64 0, .int .i64 0, .int .i64 0, .int .i64 0, .int .i64 0] 44)
            have szb : (wd.alloc (.cells #[.string ⟨#[]⟩, .int .i64 0, .int .i64 0, .int .i64 0, .int .i64 0, .int .i64 0, .int .i64 0, .int .i64 0, .int .i64 0, .int .i64 0, .slice none 0 0, .slice none 0 0, .int .i64 0, .int .i64 0, .int .i64 0, .int .i64 0, .int .i64 0, .int .i64 0, .slice none 0 0, .slice none 0 0, .int .i64 0, .int .i64 0, .int .i64 0, .int .i64 0, .int .i64 0, .int .i64 0, .int .i64 0, .int .i64 0, .int .i64 0, .int .i64 0, .int .i64 0, .slice none 0 0, .slice none 0 0, .slice none 0 0, .int .i64 0, .int .i64 0, .int .i64 0, .int .i64 0, .int .i64 0, .int .i64 0, .int .i64 0] 44)).heap.size = wd.heap.size + 1 := by simp
            refine hK.out _ _ (.inr scb) ?_
            clear hK K'
            try simp only [Act.put, List.setIfInBounds_toArray, List.set_cons_zero, List.set_cons_succ]
            refine' AnyTill.one (i := 3) (o := _) (by kernel_rfl) ?ho3yesnn (fun K' hK => ?hh3yesnn)
            case ho3yesnn => (simp only [List.getElem?_toArray, List.getElem?_cons_succ, List.getElem?_cons_zero]; rfl)
            go_simp
            (go_at_call 9; (refine (pnone_x _).mono ?_); rintro e wn ⟨rfl, hbn⟩)
            have scb2 : wn.cell? ⟨wr.heap.size, 0, none⟩ = some (.string j) ∧ wn.cell? ⟨wr.heap.size, 1, none⟩ = some (.int .i64 p) ∧ wn.cell? ⟨wr.heap.size, 2, none⟩ = some (.int .i64 bk) ∧ wn.cell? ⟨wr.heap.size, 3, none⟩ = some (.int .i64 pm) ∧ wn.cell? ⟨wr.heap.size, 4, none⟩ = some (.int .i64 jd) ∧ wn.cell? ⟨wr.heap.size, 5, none⟩ = some (.int .i64 cp) ∧ wn.cell? ⟨wr.heap.size, 6, none⟩ = some (.int .i64 lf) ∧ wn.cell? ⟨wr.heap.size, 7, none⟩ = some (.int .i64 tu) ∧ wn.cell? ⟨wr.heap.size, 8, none⟩ = some (.int .i64 0) := ⟨cell_keep scb.1 hbn, cell_keep scb.2.1 hbn, cell_keep scb.2.2.1 hbn, cell_keep scb.2.2.2.1 hbn, cell_keep scb.2.2.2.2.1 hbn, cell_keep scb.2.2.2.2.2.1 hbn, cell_keep scb.2.2.2.2.2.2.1 hbn, cell_keep scb.2.2.2.2.2.2.2.1 hbn, cell_keep scb.2.2.2.2.2.2.2.2 hbn⟩
            have hg0 := (hbn.block wd.heap.size (by rw [szb]; omega)).trans hg0
            have szb : wd.heap.size + 1 ≤ wn.heap.size := (by have := hbn.size; rw [szb] at this; omega)
            have bb := bb.trans (hbn.mono bb.size)
            refine hK.out _ _ (.inr scb2) ?_
            clear hK K' hbn scb
            have scb := scb2
            clear scb2
            try simp only [Act.put, List.setIfInBounds_toArray, List.set_cons_zero, List.set_cons_succ]
            refine' AnyTill.one (i := 6) (o := _) (by kernel_rfl) ?ho6yesmky (fun K' hK => ?hh6yesmky)
            case ho6yesmky => (simp only [List.getElem?_toArray, List.getElem?_cons_succ, List.getElem?_cons_zero]; rfl)
            go_simp
            (go_at_call 8; (refine (CM.out _ bb).mono ?_); rintro e w8 ⟨lb8, O8, ss, rfl, _, _, hb8⟩)
            have pc := pvc_of ⟨j, p, bk, pm, jd, cp, lf, tu⟩ MBal.none v ss
            unfold MBal.none at pc
            obtain ⟨P, hP⟩ : ∃ P, (pvL ⟨j, p, bk, pm, jd, cp, lf, tu⟩ ⟨-1, 0, fun _ => ⟨0, 0, 0⟩, fun _ => 0, 0, 0, 0, 0, 0⟩ v ss).toArray = P := ⟨_, rfl⟩
            rw [hP] at pc
            rw [hP]

            have PC := Lib.hid pc
            have sce : w8.cell? ⟨wr.heap.size, 0, none⟩ = some (.string j) ∧ w8.cell? ⟨wr.heap.size, 1, none⟩ = some (.int .i64 p) ∧ w8.cell? ⟨wr.heap.size, 2, none⟩ = some (.int .i64 bk) ∧ w8.cell? ⟨wr.heap.size, 3, none⟩ = some (.int .i64 pm) ∧ w8.cell? ⟨wr.heap.size, 4, none⟩ = some (.int .i64 jd) ∧ w8.cell? ⟨wr.heap.size, 5, none⟩ = some (.int .i64 cp) ∧ w8.cell? ⟨wr.heap.size, 6, none⟩ = some (.int .i64 lf) ∧ w8.cell? ⟨wr.heap.size, 7, none⟩ = some (.int .i64 tu) ∧ w8.cell? ⟨wr.heap.size, 8, none⟩ = some (.int .i64 0) := ⟨cell_keep scb.1 hb8, cell_keep scb.2.1 hb8, cell_keep scb.2.2.1 hb8, cell_keep scb.2.2.2.1 hb8, cell_keep scb.2.2.2.2.1 hb8, cell_keep scb.2.2.2.2.2.1 hb8, cell_keep scb.2.2.2.2.2.2.1 hb8, cell_keep scb.2.2.2.2.2.2.2.1 hb8, cell_keep scb.2.2.2.2.2.2.2.2 hb8⟩
            refine hK.out _ _ (.inr sce) ?_
            clear hK K' hP pc
            try simp only [Act.put, List.setIfInBounds_toArray, List.set_cons_zero, List.set_cons_succ]
            refine AnyTill.take (i := 7) (v := ?_) (by simp only [List.getElem?_toArray, List.getElem?_cons_succ, List.getElem?_cons_zero]; rfl) (by kernel_rfl) (by kernel_rfl) (by kernel_rfl) (by kernel_rfl) (fun _ _ _ h => h) (Or.inl ⟨by rfl, ?_⟩) sce ?_
            rotate_left
            · intro w' hw'; (try dsimp only at hw'); go_simp <;> with_reducible rfl
            try simp only [Act.put, List.setIfInBounds_toArray, List.set_cons_zero, List.set_cons_succ]
            refine AnyTill.take (i := 8) (v := ?_) (by simp only [List.getElem?_toArray, List.getElem?_cons_succ, List.getElem?_cons_zero]; rfl) (by kernel_rfl) (by kernel_rfl) (by kernel_rfl) (by kernel_rfl) (fun _ _ _ h => h) (Or.inl ⟨by rfl, ?_⟩) sce ?_
            rotate_left
            · intro w' hw'; (try dsimp only at hw'); go_simp <;> with_reducible rfl
            try simp only [Act.put, List.setIfInBounds_toArray, List.set_cons_zero, List.set_cons_succ]
            refine AnyTill.take (i := 9) (v := ?_) (by simp only [List.getElem?_toArray, List.getElem?_cons_succ, List.getElem?_cons_zero]; rfl) (by kernel_rfl) (by kernel_rfl) (by kernel_rfl) (by kernel_rfl) (fun _ _ _ h => h) (Or.inl ⟨by rfl, ?_⟩) sce ?_
            rotate_left
            · intro w' hw'; (try dsimp only at hw'); go_simp <;> with_reducible rfl
            try simp only [Act.put, List.setIfInBounds_toArray, List.set_cons_zero, List.set_cons_succ]
            refine AnyTill.take (i := 10) (v := ?_) (by simp only [List.getElem?_toArray, List.getElem?_cons_succ, List.getElem?_cons_zero]; rfl) (by kernel_rfl) (by kernel_rfl) (by kernel_rfl) (by kernel_rfl) (fun _ _ _ h => h) (Or.inl ⟨by rfl, ?_⟩) sce ?_
            rotate_left
            · intro w' hw'; (try dsimp only at hw'); go_simp <;> with_reducible rfl
            try simp only [Act.put, List.setIfInBounds_toArray, List.set_cons_zero, List.set_cons_succ]
            have hg := (hb8.block wd.heap.size (by omega)).trans hg0
            refine' AnyTill.one (i := 12) (o := _) (by kernel_rfl) ?ho12yess2y (fun K' hK => ?hh12yess2y)
            case ho12yess2y => (simp only [List.getElem?_toArray, List.getElem?_cons_succ, List.getElem?_cons_zero]; rfl)
            rw [if_pos (by rfl)]
            refine wp_store_row 44 (.tmp 9) (.tmp 80) rfl wd.heap.size P rfl rfl _ _ hg (by rw [PC.out.size]; kernel_rfl) (by rw [PC.out.size]; rfl) PC.out.one ?_
            refine hK.out _ _ (.inr ⟨set_far sce.1 (by have := LTX.out; omega), set_far sce.2.1 (by have := LTX.out; omega), set_far sce.2.2.1 (by have := LTX.out; omega), set_far sce.2.2.2.1 (by have := LTX.out; omega), set_far sce.2.2.2.2.1 (by have := LTX.out; omega), set_far sce.2.2.2.2.2.1 (by have := LTX.out; omega), set_far sce.2.2.2.2.2.2.1 (by have := LTX.out; omega), set_far sce.2.2.2.2.2.2.2.1 (by have := LTX.out; omega), set_far sce.2.2.2.2.2.2.2.2 (by have := LTX.out; omega)⟩) ?_
            clear hK K'
            try simp only [Act.put]
            refine AnyTill.take (i := 13) (v := ?_) (by simp only [List.getElem?_toArray, List.getElem?_cons_succ, List.getElem?_cons_zero]; rfl) (by kernel_rfl) (by kernel_rfl) (by kernel_rfl) (by kernel_rfl) (fun _ _ _ h => h) (Or.inl ⟨by rfl, ?_⟩) ⟨set_far sce.1 (by have := LTX.out; omega), set_far sce.2.1 (by have := LTX.out; omega), set_far sce.2.2.1 (by have := LTX.out; omega), set_far sce.2.2.2.1 (by have := LTX.out; omega), set_far sce.2.2.2.2.1 (by have := LTX.out; omega), set_far sce.2.2.2.2.2.1 (by have := LTX.out; omega), set_far sce.2.2.2.2.2.2.1 (by have := LTX.out; omega), set_far sce.2.2.2.2.2.2.2.1 (by have := LTX.out; omega), set_far sce.2.2.2.2.2.2.2.2 (by have := LTX.out; omega)⟩ ?_
            rotate_left
            · intro w' hw'; (try dsimp only at hw'); go_simp <;> with_reducible rfl
            try simp only [Act.put, List.setIfInBounds_toArray, List.set_cons_zero, List.set_cons_succ]
            refine AnyTill.take (i := 14) (v := ?_) (by simp only [List.getElem?_toArray, List.getElem?_cons_succ, List.getElem?_cons_zero]; rfl) (by kernel_rfl) (by kernel_rfl) (by kernel_rfl) (by kernel_rfl) (fun _ _ _ h => h) (Or.inl ⟨by rfl, ?_⟩) ⟨set_far sce.1 (by have := LTX.out; omega), set_far sce.2.1 (by have := LTX.out; omega), set_far sce.2.2.1 (by have := LTX.out; omega), set_far sce.2.2.2.1 (by have := LTX.out; omega), set_far sce.2.2.2.2.1 (by have := LTX.out; omega), set_far sce.2.2.2.2.2.1 (by have := LTX.out; omega), set_far sce.2.2.2.2.2.2.1 (by have := LTX.out; omega), set_far sce.2.2.2.2.2.2.2.1 (by have := LTX.out; omega), set_far sce.2.2.2.2.2.2.2.2 (by have := LTX.out; omega)⟩ ?_
            rotate_left
            · intro w' hw'; (try dsimp only at hw'); go_simp <;> with_reducible rfl
            try simp only [Act.put, List.setIfInBounds_toArray, List.set_cons_zero, List.set_cons_succ]
            refine AnyTill.done (by kernel_rfl) ?_ _
            refine NoPanic.normal ?_

            have kz := below_setRow (KX.out.trans ((bb.trans (hb8.mono bb.size)).mono KX.out.size)) (g := wd.heap.size) KX.out.size P
            have cz := below_setRow (CX.out.trans ((bb.trans (hb8.mono bb.size)).mono CX.out.size)) (g := wd.heap.size) CX.out.size P
            have x8 := set_far (P := P) sce.2.2.2.2.2.2.2.2 (show wr.heap.size ≠ wd.heap.size by have := LTX.out; omega)
            obtain ⟨wz, hwz⟩ : ∃ wz, w8.setRow wd.heap.size P = wz := ⟨_, rfl⟩
            have HWZ := Lib.hid hwz
            rw [hwz] at  x8 kz cz
            have KZ := Lib.hid kz
            have CZ := Lib.hid cz
            clear hwz kz cz hb8 sce scb scd hg hg0 bb szb PC 
            rw [HWZ.out]
            clear HWZ
            go_wp2
            go_roundg (14 - (k + 1))
            case measure => have := HGK.out; omega
            case rel => exact ⟨k + 1, by omega, rfl, by go_num, KZ.out, CZ.out⟩
    · obtain rfl : k = 14 := by omega
      have CF := Lib.hid (pvleft (V2.out.below K6.out) (vis_zero (fun _ => ⟨0, 0, 0⟩)))
      have PB := Lib.hid (P2.out.below K6.out)
      have LO := Lib.hid (N2.out.low.trans (K6.out.mono N2.out.low.size))
      have e0 : btot (fun _ => ⟨0, 0, 0⟩) 0 = 0 := rfl
      rw [e0] at CF
      clear hlt HGK hk ER AT R5 C6 e0
      go_wp2_with fail
      refine (CF.out).mono ?_
      rintro e w8 ⟨rfl, hb8⟩
      have K8 := Lib.hid (LO.out.trans (hb8.mono LO.out.size))
      have CR := Lib.hid (pbrows (PB.out.below hb8) (bis_zero (fun _ => ⟨0, 0, 0⟩)))
      clear hb8 CF
      go_wp2_with fail
      refine (CR.out).mono ?_
      rintro e w9 ⟨A9, c9, rfl, _, _, _, hb9⟩
      have K9 := Lib.hid (K8.out.trans (hb9.mono K8.out.size))
      clear hb9 CR
      go_wp2_with (go_at_call 12; (with_reducible refine (W.out _).mono ?_); rintro e w10 ⟨rfl, hb10⟩; have K10 := Lib.hid (K9.out.trans (hb10.mono K9.out.size)); clear hb10)
      go_ret
      exact ⟨rfl, K10.out⟩
end Go.Proofs.Ytmlafdehhbhbiaa
