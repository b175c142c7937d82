/- Tables of rates of numbers, made by the document's own additions: some table; of it, the program's. -/
import Derived.Test.YtnhnimchjbhnfaaREnact
import Derived.Test.YtnhnimchjbhnfaaLaw09a
import Derived.Test.YtnhnimchjbhnfaaMem
import Derived.Test.YtnhnimchjbhnfaaPlay
import Derived.Test.YtnhnimchjbhnfaaOrd2
import Derived.WalkKit
import Derived.WalkSpells
import Derived.WalkLawsBesides
import Derived.Lib.Hide
import Derived.IntWalk
import Derived.Deep.LoopGhost
import Derived.Deep.RegionHeld3
namespace Go.Proofs.Ytnhnimchjbhnfaa
open Go.RowKit
section
variable {w0 w : World} {O : Nat → Nat} {t sb n : Nat} {R : Nat → Rt}
theorem mtadd_some (h : NowT 68 w0 w O t sb n R) (ht : t ≠ 0) (x : Rt) :
    Calls Try.prog 26 #[ptr sb, .string x.j, .int .i64 x.y, .int .i64 x.r, .int .i64 x.p] w fun e' w' => ∃ e n' R' O', e' = .returned (.int .i64 e) ∧ NowT 68 w0 w' O' t sb n' R' ∧ Step w0.heap.size O t w O' w' := by
  obtain ⟨v, s⟩ := h.st
  obtain ⟨e, he⟩ := terr_any s.inv.le x.j x.y x.r x.p
  by_cases h0 : e = 0
  · subst h0
    refine (radd_ok s h.fin h.low.size x he).mono ?_
    rintro e' w' ⟨rfl, v', O', a, st⟩
    exact ⟨0, _, _, O', rfl, ⟨⟨_, a⟩, st.fin, h.low.trans (st.below h.fin ht h.low.size)⟩, st⟩
  · refine (radd_no s h.fin h.low.size x e he h0).mono ?_
    rintro e' w' ⟨rfl, hb⟩
    exact ⟨e, n, R, O, rfl, h.below hb, Step.of_below h.fin hb⟩
set_option maxHeartbeats 8000000 in
set_option maxRecDepth 100000 in
/-- some table -/
theorem ptab_some (A : Option Addr) (n c : Nat) (zs : List Int) (w : World) (h : IsRow .i64 w A n c zs) :
    Calls Try.prog 16 #[.slice A n c] w fun e w' => ∃ sb n' R O', e = .returned (ptr sb) ∧ NowT 68 w w' O' 2 sb n' R := by
  have HR := Lib.hid h.at.1
  obtain ⟨f, hf⟩ : ∃ f : Nat → Int, (fun j => zs.getD j 0) = f := ⟨_, rfl⟩
  rw [hf] at HR
  clear h hf
  go_enter Try.func16, Try.ntmps16
  go_wp2
  obtain ⟨nw, _⟩ := nowt_new w w (fun _ => 0) (Fin0.zero _ _) (Below.refl _ _) 68 57 2 (fun _ => ⟨⟨#[]⟩, 0, 0, 0⟩)
  have N0 := Lib.hid nw
  clear nw
  go_loopg [4] 10 (fun gh i wr => ∃ (k : Nat) (n' : Nat) (R : Nat → Rt) (O : Nat → Nat), k ≤ 10 ∧ gh = 10 - k ∧ i = .int .i64 k ∧ NowT 68 w wr O 2 w.heap.size n' R)
  case atStart => exact ⟨0, _, _, _, by omega, rfl, rfl, N0.out⟩
  case round =>
    obtain ⟨k, n', R, O, hk, hgk, rfl, hn1⟩ := hrel
    have HGK := Lib.hid hgk
    have N1 := Lib.hid hn1
    clear hgk hn1 N0
    by_cases hlt : k < n ∧ k < 10
    · obtain ⟨l0, l1⟩ := hlt
      obtain ⟨b, off, rfl, hb, hc⟩ := HR.out.some (by omega)
      have low := N1.out.low
      have c0 := cell_keep (hc k l0) low
      obtain ⟨z, hz⟩ : ∃ z, f k = z := ⟨_, rfl⟩
      rw [hz] at c0
      have k0 : (0 : Int) ≤ (k : Int) := by omega
      have k1 : (k : Int) < (n : Int) := by omega
      have CL := Lib.hid fun w5 (q : Below wr.heap.size wr w5) (x : Rt) => mtadd_some (N1.out.below q) (by decide) x
      have C0 := Lib.hid c0
      have HCW := Lib.hid (show w.cell? ⟨b, off + k, none⟩ = some (.int .i64 z) by rw [← hz]; exact hc k l0)
      clear hc hz low
      have par : Int.tmod (k : Int) 2 = 0 ∨ Int.tmod (k : Int) 2 = 1 := by rw [Int.tmod_eq_emod_of_nonneg (by omega)]; omega
      have BD := Lib.hid (below_drew wr)
      have BS := Lib.hid ((below_drew wr).alloc (Nat.le_refl _) (.cells #[.string ⟨#[117, 107]⟩, .string ⟨#[100, 101]⟩] 9))
      have RL := rec_lit wr.drew [.string ⟨#[117, 107]⟩, .string ⟨#[100, 101]⟩] 9 wr.heap.size rfl
      have lit0 := RL 0 _ rfl
      have lit1 := RL 1 _ rfl
      clear RL C0
      rcases par with par | par
      · go_wp2
        refine wp_region_noPanic ?_
        refine AnyTill.begin (C := fun w' => w'.cell? ⟨b, off + k, none⟩ = some (.int .i64 z)) (q := 99) (by kernel_rfl) ?_
        have scd : wr.drew.cell? ⟨b, off + k, none⟩ = some (.int .i64 z) := c0
        refine AnyTill.take (i := 0) (v := ?_) (by simp only [List.getElem?_toArray, List.getElem?_cons_zero]; rfl) (by kernel_rfl) (by kernel_rfl) (by kernel_rfl) (by kernel_rfl) (fun _ _ _ h => h) (Or.inl ⟨by rfl, ?_⟩) scd ?_
        rotate_left
        · intro w' hw'; (try dsimp only at hw'); go_simp <;> with_reducible rfl
        try simp only [Act.put, List.setIfInBounds_toArray, List.set_cons_zero, List.set_cons_succ]
        refine AnyTill.take (i := 2) (v := ?_) (by simp only [List.getElem?_toArray, List.getElem?_cons_succ, List.getElem?_cons_zero]; rfl) (by kernel_rfl) (by kernel_rfl) (by kernel_rfl) (by kernel_rfl) (fun _ _ _ h => h) (Or.inl ⟨by rfl, ?_⟩) scd ?_
        rotate_left
        · intro w' hw'; (try dsimp only at hw'); go_simp <;> with_reducible rfl
        try simp only [Act.put, List.setIfInBounds_toArray, List.set_cons_zero, List.set_cons_succ]
        refine AnyTill.take (i := 3) (v := ?_) (by simp only [List.getElem?_toArray, List.getElem?_cons_succ, List.getElem?_cons_zero]; rfl) (by kernel_rfl) (by kernel_rfl) (by kernel_rfl) (by kernel_rfl) (fun _ _ _ h => h) (Or.inl ⟨by rfl, ?_⟩) scd ?_
        rotate_left
        · intro w' hw'; (try dsimp only at hw'); go_simp <;> with_reducible rfl
        try simp only [Act.put, List.setIfInBounds_toArray, List.set_cons_zero, List.set_cons_succ]
        refine AnyTill.take (i := 6) (v := ?_) (by simp only [List.getElem?_toArray, List.getElem?_cons_succ, List.getElem?_cons_zero]; rfl) (by kernel_rfl) (by kernel_rfl) (by kernel_rfl) (by kernel_rfl) (fun _ _ _ h => h) (Or.inl ⟨by rfl, ?_⟩) scd ?_
        rotate_left
        · intro w' hw'; (try dsimp only at hw'); go_simp <;> with_reducible rfl
        try simp only [Act.put, List.setIfInBounds_toArray, List.set_cons_zero, List.set_cons_succ]
        refine AnyTill.take (i := 7) (v := ?_) (by simp only [List.getElem?_toArray, List.getElem?_cons_succ, List.getElem?_cons_zero]; rfl) (by kernel_rfl) (by kernel_rfl) (by kernel_rfl) (by kernel_rfl) (fun _ _ _ h => h) (Or.inl ⟨by rfl, ?_⟩) scd ?_
        rotate_left
        · intro w' hw'; (try dsimp only at hw'); go_simp <;> with_reducible rfl
        try simp only [Act.put, List.setIfInBounds_toArray, List.set_cons_zero, List.set_cons_succ]
        refine AnyTill.take (i := 8) (v := ?_) (by simp only [List.getElem?_toArray, List.getElem?_cons_succ, List.getElem?_cons_zero]; rfl) (by kernel_rfl) (by kernel_rfl) (by kernel_rfl) (by kernel_rfl) (fun _ _ _ h => h) (Or.inl ⟨by rfl, ?_⟩) scd ?_
        rotate_left
        · intro w' hw'; (try dsimp only at hw'); go_simp <;> with_reducible rfl
        try simp only [Act.put, List.setIfInBounds_toArray, List.set_cons_zero, List.set_cons_succ]
        refine AnyTill.take (i := 9) (v := ?_) (by simp only [List.getElem?_toArray, List.getElem?_cons_succ, List.getElem?_cons_zero]; rfl) (by kernel_rfl) (by kernel_rfl) (by kernel_rfl) (by kernel_rfl) (fun _ _ _ h => h) (Or.inl ⟨by rfl, ?_⟩) scd ?_
        rotate_left
        · intro w' hw'; (try dsimp only at hw'); go_simp <;> with_reducible rfl
        try simp only [Act.put, List.setIfInBounds_toArray, List.set_cons_zero, List.set_cons_succ]
        refine AnyTill.takeC (i := 10) (v := .int .i64 (z % 6)) (by simp only [List.getElem?_toArray, List.getElem?_cons_succ, List.getElem?_cons_zero]; rfl) (by kernel_rfl) (by kernel_rfl) (by kernel_rfl) (by kernel_rfl) (fun _ _ _ h => h) ⟨by rfl, 8, #[.int .i64 z, .int .i64 6], fun w' hw' => ?_, fun w' _ => within_any z 6 w' (by omega) (by omega)⟩ scd ?_
        · (try dsimp only at hw'); go_simp <;> with_reducible rfl
        try simp only [Act.put, List.setIfInBounds_toArray, List.set_cons_zero, List.set_cons_succ]
        refine AnyTill.take (i := 11) (v := ?_) (by simp only [List.getElem?_toArray, List.getElem?_cons_succ, List.getElem?_cons_zero]; rfl) (by kernel_rfl) (by kernel_rfl) (by kernel_rfl) (by kernel_rfl) (fun _ _ _ h => h) (Or.inl ⟨by rfl, ?_⟩) scd ?_
        rotate_left
        · intro w' hw'; (try dsimp only at hw'); go_simp <;> with_reducible rfl
        try simp only [Act.put, List.setIfInBounds_toArray, List.set_cons_zero, List.set_cons_succ]
        refine AnyTill.take (i := 12) (v := ?_) (by simp only [List.getElem?_toArray, List.getElem?_cons_succ, List.getElem?_cons_zero]; rfl) (by kernel_rfl) (by kernel_rfl) (by kernel_rfl) (by kernel_rfl) (fun _ _ _ h => h) (Or.inl ⟨by rfl, ?_⟩) scd ?_
        rotate_left
        · intro w' hw'; (try dsimp only at hw'); go_simp <;> with_reducible rfl
        try simp only [Act.put, List.setIfInBounds_toArray, List.set_cons_zero, List.set_cons_succ]
        refine AnyTill.take (i := 13) (v := ?_) (by simp only [List.getElem?_toArray, List.getElem?_cons_succ, List.getElem?_cons_zero]; rfl) (by kernel_rfl) (by kernel_rfl) (by kernel_rfl) (by kernel_rfl) (fun _ _ _ h => h) (Or.inl ⟨by rfl, ?_⟩) scd ?_
        rotate_left
        · intro w' hw'; (try dsimp only at hw'); go_simp <;> with_reducible rfl
        try simp only [Act.put, List.setIfInBounds_toArray, List.set_cons_zero, List.set_cons_succ]
        refine AnyTill.take (i := 14) (v := ?_) (by simp only [List.getElem?_toArray, List.getElem?_cons_succ, List.getElem?_cons_zero]; rfl) (by kernel_rfl) (by kernel_rfl) (by kernel_rfl) (by kernel_rfl) (fun _ _ _ h => h) (Or.inl ⟨by rfl, ?_⟩) scd ?_
        rotate_left
        · intro w' hw'; (try dsimp only at hw'); go_simp <;> with_reducible rfl
        try simp only [Act.put, List.setIfInBounds_toArray, List.set_cons_zero, List.set_cons_succ]
        refine AnyTill.take (i := 15) (v := ?_) (by simp only [List.getElem?_toArray, List.getElem?_cons_succ, List.getElem?_cons_zero]; rfl) (by kernel_rfl) (by kernel_rfl) (by kernel_rfl) (by kernel_rfl) (fun _ _ _ h => h) (Or.inl ⟨by rfl, ?_⟩) scd ?_
        rotate_left
        · intro w' hw'; (try dsimp only at hw'); go_simp <;> with_reducible rfl
        try simp only [Act.put, List.setIfInBounds_toArray, List.set_cons_zero, List.set_cons_succ]
        refine AnyTill.take (i := 17) (v := ?_) (by simp only [List.getElem?_toArray, List.getElem?_cons_succ, List.getElem?_cons_zero]; rfl) (by kernel_rfl) (by kernel_rfl) (by kernel_rfl) (by kernel_rfl) (fun _ _ _ h => h) (Or.inl ⟨by rfl, ?_⟩) scd ?_
        rotate_left
        · intro w' hw'; (try dsimp only at hw'); go_simp <;> with_reducible rfl
        try simp only [Act.put, List.setIfInBounds_toArray, List.set_cons_zero, List.set_cons_succ]
        refine AnyTill.take (i := 18) (v := ?_) (by simp only [List.getElem?_toArray, List.getElem?_cons_succ, List.getElem?_cons_zero]; rfl) (by kernel_rfl) (by kernel_rfl) (by kernel_rfl) (by kernel_rfl) (fun _ _ _ h => h) (Or.inl ⟨by rfl, ?_⟩) scd ?_
        rotate_left
        · intro w' hw'; (try dsimp only at hw'); go_simp <;> with_reducible rfl
        try simp only [Act.put, List.setIfInBounds_toArray, List.set_cons_zero, List.set_cons_succ]
        refine AnyTill.take (i := 19) (v := ?_) (by simp only [List.getElem?_toArray, List.getElem?_cons_succ, List.getElem?_cons_zero]; rfl) (by kernel_rfl) (by kernel_rfl) (by kernel_rfl) (by kernel_rfl) (fun _ _ _ h => h) (Or.inl ⟨by rfl, ?_⟩) scd ?_
        rotate_left
        · intro w' hw'; (try dsimp only at hw'); go_simp <;> with_reducible rfl
        try simp only [Act.put, List.setIfInBounds_toArray, List.set_cons_zero, List.set_cons_succ]
        refine AnyTill.take (i := 20) (v := ?_) (by simp only [List.getElem?_toArray, List.getElem?_cons_succ, List.getElem?_cons_zero]; rfl) (by kernel_rfl) (by kernel_rfl) (by kernel_rfl) (by kernel_rfl) (fun _ _ _ h => h) (Or.inl ⟨by rfl, ?_⟩) scd ?_
        rotate_left
        · intro w' hw'; (try dsimp only at hw'); go_simp <;> with_reducible rfl
        try simp only [Act.put, List.setIfInBounds_toArray, List.set_cons_zero, List.set_cons_succ]
        refine AnyTill.take (i := 21) (v := ?_) (by simp only [List.getElem?_toArray, List.getElem?_cons_succ, List.getElem?_cons_zero]; rfl) (by kernel_rfl) (by kernel_rfl) (by kernel_rfl) (by kernel_rfl) (fun _ _ _ h => h) (Or.inl ⟨by rfl, ?_⟩) scd ?_
        rotate_left
        · intro w' hw'; (try dsimp only at hw'); go_simp <;> with_reducible rfl
        try simp only [Act.put, List.setIfInBounds_toArray, List.set_cons_zero, List.set_cons_succ]
        refine' AnyTill.two (i := 1) (k := 16) (o := _) (o' := _) (by kernel_rfl) ?zt10a ?zt10b (fun K' hK => ?zt10x) (fun K' hK => ?zt10y)
        case zt10a => (simp only [List.getElem?_toArray, List.getElem?_cons_succ, List.getElem?_cons_zero]; rfl)
        case zt10b => (simp only [List.getElem?_toArray, List.getElem?_cons_succ, List.getElem?_cons_zero]; rfl)
        case zt10x =>
          go_simp
          refine hK.out _ _ (.inr (cell_keep c0 BS.out)) ?_
          clear hK K'
          try simp only [Act.put, List.setIfInBounds_toArray, List.set_cons_zero, List.set_cons_succ]
          refine AnyTill.take (i := 4) (v := ?_) (by simp only [List.getElem?_toArray, List.getElem?_cons_succ, List.getElem?_cons_zero]; rfl) (by kernel_rfl) (by kernel_rfl) (by kernel_rfl) (by kernel_rfl) (fun _ _ _ h => h) (Or.inl ⟨by rfl, ?_⟩) (cell_keep c0 BS.out) ?_
          rotate_left
          · intro w' hw'; (try dsimp only at hw'); go_simp <;> with_reducible rfl
          try simp only [Act.put, List.setIfInBounds_toArray, List.set_cons_zero, List.set_cons_succ]
          refine' AnyTill.two (i := 5) (k := 16) (o := _) (o' := _) (by kernel_rfl) ?zt6a ?zt6b (fun K' hK => ?zt6x) (fun K' hK => ?zt6y)
          case zt6a => (simp only [List.getElem?_toArray, List.getElem?_cons_succ, List.getElem?_cons_zero]; rfl)
          case zt6b => (simp only [List.getElem?_toArray, List.getElem?_cons_succ, List.getElem?_cons_zero]; rfl)
          case zt6x =>
            go_simp
            refine hK.out _ _ (.inr (cell_keep c0 BS.out)) ?_
            clear hK K'
            try simp only [Act.put, List.setIfInBounds_toArray, List.set_cons_zero, List.set_cons_succ]
            refine' AnyTill.one (i := 16) (o := _) (by kernel_rfl) ?zt1h (fun K' hK => ?zt1k)
            case zt1h => (simp only [List.getElem?_toArray, List.getElem?_cons_succ, List.getElem?_cons_zero]; rfl)
            go_simp
            (go_at_call 22; (with_reducible refine (rate_some _ _).mono ?_); rintro e w9 ⟨y9, rfl, hb9⟩)
            have K9 := Lib.hid (BS.out.trans (hb9.mono BS.out.size))
            refine hK.out _ _ (.inr (cell_keep c0 K9.out)) ?_
            clear hK K'
            try simp only [Act.put, List.setIfInBounds_toArray, List.set_cons_zero, List.set_cons_succ]
            refine AnyTill.takeC (i := 22) (v := .int .i64 (IntKind.i64.wrap (z.tdiv 60) % 12)) (by simp only [List.getElem?_toArray, List.getElem?_cons_succ, List.getElem?_cons_zero]; rfl) (by kernel_rfl) (by kernel_rfl) (by kernel_rfl) (by kernel_rfl) (fun _ _ _ h => h) ⟨by rfl, 8, #[.int .i64 (IntKind.i64.wrap (z.tdiv 60)), .int .i64 12], fun w' hw' => ?_, fun w' _ => within_any (IntKind.i64.wrap (z.tdiv 60)) 12 w' (by omega) (by omega)⟩ (cell_keep c0 K9.out) ?_
            · (try dsimp only at hw'); go_simp <;> with_reducible rfl
            try simp only [Act.put, List.setIfInBounds_toArray, List.set_cons_zero, List.set_cons_succ]
            refine' AnyTill.one (i := 23) (o := _) (by kernel_rfl) ?zt2h (fun K' hK => ?zt2k)
            case zt2h => (simp only [List.getElem?_toArray, List.getElem?_cons_succ, List.getElem?_cons_zero]; rfl)
            go_simp
            (go_at_call 26; (refine (CL.out _ K9.out ⟨_, _, _, _⟩).mono ?_); rintro e w5 ⟨q5, n5, R5, O5, rfl, hn5, st5⟩)
            have N5 := Lib.hid hn5
            refine hK.out _ _ (.inr (cell_keep HCW.out N5.out.low)) ?_
            clear hK K'
            try simp only [Act.put, List.setIfInBounds_toArray, List.set_cons_zero, List.set_cons_succ]
            refine AnyTill.done (by kernel_rfl) ?_ _
            refine NoPanic.normal ?_
            go_wp2
            go_roundg (10 - (k + 1))
            case measure => have := HGK.out; omega
            case rel => exact ⟨k + 1, _, _, _, by omega, rfl, by go_num, N5.out⟩
          case zt6y =>
            go_simp
            (go_at_call 22; (with_reducible refine (rate_some _ _).mono ?_); rintro e w9 ⟨y9, rfl, hb9⟩)
            have K9 := Lib.hid (BS.out.trans (hb9.mono BS.out.size))
            refine hK.out _ _ (.inr (cell_keep c0 K9.out)) ?_
            clear hK K'
            try simp only [Act.put, List.setIfInBounds_toArray, List.set_cons_zero, List.set_cons_succ]
            have l9 := cell_keep lit0 hb9
            refine AnyTill.takeC (i := 22) (v := .int .i64 (IntKind.i64.wrap (z.tdiv 60) % 12)) (by simp only [List.getElem?_toArray, List.getElem?_cons_succ, List.getElem?_cons_zero]; rfl) (by kernel_rfl) (by kernel_rfl) (by kernel_rfl) (by kernel_rfl) (fun _ _ _ h => h) ⟨by rfl, 8, #[.int .i64 (IntKind.i64.wrap (z.tdiv 60)), .int .i64 12], fun w' hw' => ?_, fun w' _ => within_any (IntKind.i64.wrap (z.tdiv 60)) 12 w' (by omega) (by omega)⟩ (cell_keep c0 K9.out) ?_
            · (try dsimp only at hw'); go_simp <;> with_reducible rfl
            try simp only [Act.put, List.setIfInBounds_toArray, List.set_cons_zero, List.set_cons_succ]
            refine' AnyTill.one (i := 5) (o := _) (by kernel_rfl) ?zt4h (fun K' hK => ?zt4k)
            case zt4h => (simp only [List.getElem?_toArray, List.getElem?_cons_succ, List.getElem?_cons_zero]; rfl)
            go_simp
            refine hK.out _ _ (.inr (cell_keep c0 K9.out)) ?_
            clear hK K'
            try simp only [Act.put, List.setIfInBounds_toArray, List.set_cons_zero, List.set_cons_succ]
            refine' AnyTill.one (i := 23) (o := _) (by kernel_rfl) ?zt5h (fun K' hK => ?zt5k)
            case zt5h => (simp only [List.getElem?_toArray, List.getElem?_cons_succ, List.getElem?_cons_zero]; rfl)
            go_simp
            (go_at_call 26; (refine (CL.out _ K9.out ⟨_, _, _, _⟩).mono ?_); rintro e w5 ⟨q5, n5, R5, O5, rfl, hn5, st5⟩)
            have N5 := Lib.hid hn5
            refine hK.out _ _ (.inr (cell_keep HCW.out N5.out.low)) ?_
            clear hK K'
            try simp only [Act.put, List.setIfInBounds_toArray, List.set_cons_zero, List.set_cons_succ]
            refine AnyTill.done (by kernel_rfl) ?_ _
            refine NoPanic.normal ?_
            go_wp2
            go_roundg (10 - (k + 1))
            case measure => have := HGK.out; omega
            case rel => exact ⟨k + 1, _, _, _, by omega, rfl, by go_num, N5.out⟩
        case zt10y =>
          go_simp
          (go_at_call 22; (with_reducible refine (rate_some _ _).mono ?_); rintro e w9 ⟨y9, rfl, hb9⟩)
          have K9 := Lib.hid (BD.out.trans (hb9.mono BD.out.size))
          refine hK.out _ _ (.inr (cell_keep c0 K9.out)) ?_
          clear hK K'
          try simp only [Act.put, List.setIfInBounds_toArray, List.set_cons_zero, List.set_cons_succ]
          refine AnyTill.takeC (i := 22) (v := .int .i64 (IntKind.i64.wrap (z.tdiv 60) % 12)) (by simp only [List.getElem?_toArray, List.getElem?_cons_succ, List.getElem?_cons_zero]; rfl) (by kernel_rfl) (by kernel_rfl) (by kernel_rfl) (by kernel_rfl) (fun _ _ _ h => h) ⟨by rfl, 8, #[.int .i64 (IntKind.i64.wrap (z.tdiv 60)), .int .i64 12], fun w' hw' => ?_, fun w' _ => within_any (IntKind.i64.wrap (z.tdiv 60)) 12 w' (by omega) (by omega)⟩ (cell_keep c0 K9.out) ?_
          · (try dsimp only at hw'); go_simp <;> with_reducible rfl
          try simp only [Act.put, List.setIfInBounds_toArray, List.set_cons_zero, List.set_cons_succ]
          refine' AnyTill.one (i := 1) (o := _) (by kernel_rfl) ?zt7h (fun K' hK => ?zt7k)
          case zt7h => (simp only [List.getElem?_toArray, List.getElem?_cons_succ, List.getElem?_cons_zero]; rfl)
          go_simp
          refine hK.out _ _ (.inr (cell_keep c0 (K9.out.alloc K9.out.size (.cells #[.string ⟨#[117, 107]⟩, .string ⟨#[100, 101]⟩] 9)))) ?_
          clear hK K'
          try simp only [Act.put, List.setIfInBounds_toArray, List.set_cons_zero, List.set_cons_succ]
          refine AnyTill.take (i := 4) (v := ?_) (by simp only [List.getElem?_toArray, List.getElem?_cons_succ, List.getElem?_cons_zero]; rfl) (by kernel_rfl) (by kernel_rfl) (by kernel_rfl) (by kernel_rfl) (fun _ _ _ h => h) (Or.inl ⟨by rfl, ?_⟩) (cell_keep c0 (K9.out.alloc K9.out.size (.cells #[.string ⟨#[117, 107]⟩, .string ⟨#[100, 101]⟩] 9))) ?_
          rotate_left
          · intro w' hw'; (try dsimp only at hw'); go_simp <;> with_reducible rfl
          try simp only [Act.put, List.setIfInBounds_toArray, List.set_cons_zero, List.set_cons_succ]
          refine' AnyTill.one (i := 5) (o := _) (by kernel_rfl) ?zt8h (fun K' hK => ?zt8k)
          case zt8h => (simp only [List.getElem?_toArray, List.getElem?_cons_succ, List.getElem?_cons_zero]; rfl)
          go_simp
          refine hK.out _ _ (.inr (cell_keep c0 (K9.out.alloc K9.out.size (.cells #[.string ⟨#[117, 107]⟩, .string ⟨#[100, 101]⟩] 9)))) ?_
          clear hK K'
          try simp only [Act.put, List.setIfInBounds_toArray, List.set_cons_zero, List.set_cons_succ]
          refine' AnyTill.one (i := 23) (o := _) (by kernel_rfl) ?zt9h (fun K' hK => ?zt9k)
          case zt9h => (simp only [List.getElem?_toArray, List.getElem?_cons_succ, List.getElem?_cons_zero]; rfl)
          go_simp
          (go_at_call 26; (refine (CL.out _ (K9.out.alloc K9.out.size (.cells #[.string ⟨#[117, 107]⟩, .string ⟨#[100, 101]⟩] 9)) ⟨_, _, _, _⟩).mono ?_); rintro e w5 ⟨q5, n5, R5, O5, rfl, hn5, st5⟩)
          have N5 := Lib.hid hn5
          refine hK.out _ _ (.inr (cell_keep HCW.out N5.out.low)) ?_
          clear hK K'
          try simp only [Act.put, List.setIfInBounds_toArray, List.set_cons_zero, List.set_cons_succ]
          refine AnyTill.done (by kernel_rfl) ?_ _
          refine NoPanic.normal ?_
          go_wp2
          go_roundg (10 - (k + 1))
          case measure => have := HGK.out; omega
          case rel => exact ⟨k + 1, _, _, _, by omega, rfl, by go_num, N5.out⟩
      · go_wp2
        refine wp_region_noPanic ?_
        refine AnyTill.begin (C := fun w' => w'.cell? ⟨b, off + k, none⟩ = some (.int .i64 z)) (q := 99) (by kernel_rfl) ?_
        have scd : wr.drew.cell? ⟨b, off + k, none⟩ = some (.int .i64 z) := c0
        refine AnyTill.take (i := 0) (v := ?_) (by simp only [List.getElem?_toArray, List.getElem?_cons_zero]; rfl) (by kernel_rfl) (by kernel_rfl) (by kernel_rfl) (by kernel_rfl) (fun _ _ _ h => h) (Or.inl ⟨by rfl, ?_⟩) scd ?_
        rotate_left
        · intro w' hw'; (try dsimp only at hw'); go_simp <;> with_reducible rfl
        try simp only [Act.put, List.setIfInBounds_toArray, List.set_cons_zero, List.set_cons_succ]
        refine AnyTill.take (i := 2) (v := ?_) (by simp only [List.getElem?_toArray, List.getElem?_cons_succ, List.getElem?_cons_zero]; rfl) (by kernel_rfl) (by kernel_rfl) (by kernel_rfl) (by kernel_rfl) (fun _ _ _ h => h) (Or.inl ⟨by rfl, ?_⟩) scd ?_
        rotate_left
        · intro w' hw'; (try dsimp only at hw'); go_simp <;> with_reducible rfl
        try simp only [Act.put, List.setIfInBounds_toArray, List.set_cons_zero, List.set_cons_succ]
        refine AnyTill.take (i := 3) (v := ?_) (by simp only [List.getElem?_toArray, List.getElem?_cons_succ, List.getElem?_cons_zero]; rfl) (by kernel_rfl) (by kernel_rfl) (by kernel_rfl) (by kernel_rfl) (fun _ _ _ h => h) (Or.inl ⟨by rfl, ?_⟩) scd ?_
        rotate_left
        · intro w' hw'; (try dsimp only at hw'); go_simp <;> with_reducible rfl
        try simp only [Act.put, List.setIfInBounds_toArray, List.set_cons_zero, List.set_cons_succ]
        refine AnyTill.take (i := 6) (v := ?_) (by simp only [List.getElem?_toArray, List.getElem?_cons_succ, List.getElem?_cons_zero]; rfl) (by kernel_rfl) (by kernel_rfl) (by kernel_rfl) (by kernel_rfl) (fun _ _ _ h => h) (Or.inl ⟨by rfl, ?_⟩) scd ?_
        rotate_left
        · intro w' hw'; (try dsimp only at hw'); go_simp <;> with_reducible rfl
        try simp only [Act.put, List.setIfInBounds_toArray, List.set_cons_zero, List.set_cons_succ]
        refine AnyTill.take (i := 7) (v := ?_) (by simp only [List.getElem?_toArray, List.getElem?_cons_succ, List.getElem?_cons_zero]; rfl) (by kernel_rfl) (by kernel_rfl) (by kernel_rfl) (by kernel_rfl) (fun _ _ _ h => h) (Or.inl ⟨by rfl, ?_⟩) scd ?_
        rotate_left
        · intro w' hw'; (try dsimp only at hw'); go_simp <;> with_reducible rfl
        try simp only [Act.put, List.setIfInBounds_toArray, List.set_cons_zero, List.set_cons_succ]
        refine AnyTill.take (i := 8) (v := ?_) (by simp only [List.getElem?_toArray, List.getElem?_cons_succ, List.getElem?_cons_zero]; rfl) (by kernel_rfl) (by kernel_rfl) (by kernel_rfl) (by kernel_rfl) (fun _ _ _ h => h) (Or.inl ⟨by rfl, ?_⟩) scd ?_
        rotate_left
        · intro w' hw'; (try dsimp only at hw'); go_simp <;> with_reducible rfl
        try simp only [Act.put, List.setIfInBounds_toArray, List.set_cons_zero, List.set_cons_succ]
        refine AnyTill.take (i := 9) (v := ?_) (by simp only [List.getElem?_toArray, List.getElem?_cons_succ, List.getElem?_cons_zero]; rfl) (by kernel_rfl) (by kernel_rfl) (by kernel_rfl) (by kernel_rfl) (fun _ _ _ h => h) (Or.inl ⟨by rfl, ?_⟩) scd ?_
        rotate_left
        · intro w' hw'; (try dsimp only at hw'); go_simp <;> with_reducible rfl
        try simp only [Act.put, List.setIfInBounds_toArray, List.set_cons_zero, List.set_cons_succ]
        refine AnyTill.takeC (i := 10) (v := .int .i64 (z % 6)) (by simp only [List.getElem?_toArray, List.getElem?_cons_succ, List.getElem?_cons_zero]; rfl) (by kernel_rfl) (by kernel_rfl) (by kernel_rfl) (by kernel_rfl) (fun _ _ _ h => h) ⟨by rfl, 8, #[.int .i64 z, .int .i64 6], fun w' hw' => ?_, fun w' _ => within_any z 6 w' (by omega) (by omega)⟩ scd ?_
        · (try dsimp only at hw'); go_simp <;> with_reducible rfl
        try simp only [Act.put, List.setIfInBounds_toArray, List.set_cons_zero, List.set_cons_succ]
        refine AnyTill.take (i := 11) (v := ?_) (by simp only [List.getElem?_toArray, List.getElem?_cons_succ, List.getElem?_cons_zero]; rfl) (by kernel_rfl) (by kernel_rfl) (by kernel_rfl) (by kernel_rfl) (fun _ _ _ h => h) (Or.inl ⟨by rfl, ?_⟩) scd ?_
        rotate_left
        · intro w' hw'; (try dsimp only at hw'); go_simp <;> with_reducible rfl
        try simp only [Act.put, List.setIfInBounds_toArray, List.set_cons_zero, List.set_cons_succ]
        refine AnyTill.take (i := 12) (v := ?_) (by simp only [List.getElem?_toArray, List.getElem?_cons_succ, List.getElem?_cons_zero]; rfl) (by kernel_rfl) (by kernel_rfl) (by kernel_rfl) (by kernel_rfl) (fun _ _ _ h => h) (Or.inl ⟨by rfl, ?_⟩) scd ?_
        rotate_left
        · intro w' hw'; (try dsimp only at hw'); go_simp <;> with_reducible rfl
        try simp only [Act.put, List.setIfInBounds_toArray, List.set_cons_zero, List.set_cons_succ]
        refine AnyTill.take (i := 13) (v := ?_) (by simp only [List.getElem?_toArray, List.getElem?_cons_succ, List.getElem?_cons_zero]; rfl) (by kernel_rfl) (by kernel_rfl) (by kernel_rfl) (by kernel_rfl) (fun _ _ _ h => h) (Or.inl ⟨by rfl, ?_⟩) scd ?_
        rotate_left
        · intro w' hw'; (try dsimp only at hw'); go_simp <;> with_reducible rfl
        try simp only [Act.put, List.setIfInBounds_toArray, List.set_cons_zero, List.set_cons_succ]
        refine AnyTill.take (i := 14) (v := ?_) (by simp only [List.getElem?_toArray, List.getElem?_cons_succ, List.getElem?_cons_zero]; rfl) (by kernel_rfl) (by kernel_rfl) (by kernel_rfl) (by kernel_rfl) (fun _ _ _ h => h) (Or.inl ⟨by rfl, ?_⟩) scd ?_
        rotate_left
        · intro w' hw'; (try dsimp only at hw'); go_simp <;> with_reducible rfl
        try simp only [Act.put, List.setIfInBounds_toArray, List.set_cons_zero, List.set_cons_succ]
        refine AnyTill.take (i := 15) (v := ?_) (by simp only [List.getElem?_toArray, List.getElem?_cons_succ, List.getElem?_cons_zero]; rfl) (by kernel_rfl) (by kernel_rfl) (by kernel_rfl) (by kernel_rfl) (fun _ _ _ h => h) (Or.inl ⟨by rfl, ?_⟩) scd ?_
        rotate_left
        · intro w' hw'; (try dsimp only at hw'); go_simp <;> with_reducible rfl
        try simp only [Act.put, List.setIfInBounds_toArray, List.set_cons_zero, List.set_cons_succ]
        refine AnyTill.take (i := 17) (v := ?_) (by simp only [List.getElem?_toArray, List.getElem?_cons_succ, List.getElem?_cons_zero]; rfl) (by kernel_rfl) (by kernel_rfl) (by kernel_rfl) (by kernel_rfl) (fun _ _ _ h => h) (Or.inl ⟨by rfl, ?_⟩) scd ?_
        rotate_left
        · intro w' hw'; (try dsimp only at hw'); go_simp <;> with_reducible rfl
        try simp only [Act.put, List.setIfInBounds_toArray, List.set_cons_zero, List.set_cons_succ]
        refine AnyTill.take (i := 18) (v := ?_) (by simp only [List.getElem?_toArray, List.getElem?_cons_succ, List.getElem?_cons_zero]; rfl) (by kernel_rfl) (by kernel_rfl) (by kernel_rfl) (by kernel_rfl) (fun _ _ _ h => h) (Or.inl ⟨by rfl, ?_⟩) scd ?_
        rotate_left
        · intro w' hw'; (try dsimp only at hw'); go_simp <;> with_reducible rfl
        try simp only [Act.put, List.setIfInBounds_toArray, List.set_cons_zero, List.set_cons_succ]
        refine AnyTill.take (i := 19) (v := ?_) (by simp only [List.getElem?_toArray, List.getElem?_cons_succ, List.getElem?_cons_zero]; rfl) (by kernel_rfl) (by kernel_rfl) (by kernel_rfl) (by kernel_rfl) (fun _ _ _ h => h) (Or.inl ⟨by rfl, ?_⟩) scd ?_
        rotate_left
        · intro w' hw'; (try dsimp only at hw'); go_simp <;> with_reducible rfl
        try simp only [Act.put, List.setIfInBounds_toArray, List.set_cons_zero, List.set_cons_succ]
        refine AnyTill.take (i := 20) (v := ?_) (by simp only [List.getElem?_toArray, List.getElem?_cons_succ, List.getElem?_cons_zero]; rfl) (by kernel_rfl) (by kernel_rfl) (by kernel_rfl) (by kernel_rfl) (fun _ _ _ h => h) (Or.inl ⟨by rfl, ?_⟩) scd ?_
        rotate_left
        · intro w' hw'; (try dsimp only at hw'); go_simp <;> with_reducible rfl
        try simp only [Act.put, List.setIfInBounds_toArray, List.set_cons_zero, List.set_cons_succ]
        refine AnyTill.take (i := 21) (v := ?_) (by simp only [List.getElem?_toArray, List.getElem?_cons_succ, List.getElem?_cons_zero]; rfl) (by kernel_rfl) (by kernel_rfl) (by kernel_rfl) (by kernel_rfl) (fun _ _ _ h => h) (Or.inl ⟨by rfl, ?_⟩) scd ?_
        rotate_left
        · intro w' hw'; (try dsimp only at hw'); go_simp <;> with_reducible rfl
        try simp only [Act.put, List.setIfInBounds_toArray, List.set_cons_zero, List.set_cons_succ]
        refine' AnyTill.two (i := 1) (k := 16) (o := _) (o' := _) (by kernel_rfl) ?zt20a ?zt20b (fun K' hK => ?zt20x) (fun K' hK => ?zt20y)
        case zt20a => (simp only [List.getElem?_toArray, List.getElem?_cons_succ, List.getElem?_cons_zero]; rfl)
        case zt20b => (simp only [List.getElem?_toArray, List.getElem?_cons_succ, List.getElem?_cons_zero]; rfl)
        case zt20x =>
          go_simp
          refine hK.out _ _ (.inr (cell_keep c0 BS.out)) ?_
          clear hK K'
          try simp only [Act.put, List.setIfInBounds_toArray, List.set_cons_zero, List.set_cons_succ]
          refine AnyTill.take (i := 4) (v := ?_) (by simp only [List.getElem?_toArray, List.getElem?_cons_succ, List.getElem?_cons_zero]; rfl) (by kernel_rfl) (by kernel_rfl) (by kernel_rfl) (by kernel_rfl) (fun _ _ _ h => h) (Or.inl ⟨by rfl, ?_⟩) (cell_keep c0 BS.out) ?_
          rotate_left
          · intro w' hw'; (try dsimp only at hw'); go_simp <;> with_reducible rfl
          try simp only [Act.put, List.setIfInBounds_toArray, List.set_cons_zero, List.set_cons_succ]
          refine' AnyTill.two (i := 5) (k := 16) (o := _) (o' := _) (by kernel_rfl) ?zt16a ?zt16b (fun K' hK => ?zt16x) (fun K' hK => ?zt16y)
          case zt16a => (simp only [List.getElem?_toArray, List.getElem?_cons_succ, List.getElem?_cons_zero]; rfl)
          case zt16b => (simp only [List.getElem?_toArray, List.getElem?_cons_succ, List.getElem?_cons_zero]; rfl)
          case zt16x =>
            go_simp
            refine hK.out _ _ (.inr (cell_keep c0 BS.out)) ?_
            clear hK K'
            try simp only [Act.put, List.setIfInBounds_toArray, List.set_cons_zero, List.set_cons_succ]
            refine' AnyTill.one (i := 16) (o := _) (by kernel_rfl) ?zt11h (fun K' hK => ?zt11k)
            case zt11h => (simp only [List.getElem?_toArray, List.getElem?_cons_succ, List.getElem?_cons_zero]; rfl)
            go_simp
            (go_at_call 22; (with_reducible refine (rate_some _ _).mono ?_); rintro e w9 ⟨y9, rfl, hb9⟩)
            have K9 := Lib.hid (BS.out.trans (hb9.mono BS.out.size))
            refine hK.out _ _ (.inr (cell_keep c0 K9.out)) ?_
            clear hK K'
            try simp only [Act.put, List.setIfInBounds_toArray, List.set_cons_zero, List.set_cons_succ]
            refine AnyTill.takeC (i := 22) (v := .int .i64 (IntKind.i64.wrap (z.tdiv 60) % 12)) (by simp only [List.getElem?_toArray, List.getElem?_cons_succ, List.getElem?_cons_zero]; rfl) (by kernel_rfl) (by kernel_rfl) (by kernel_rfl) (by kernel_rfl) (fun _ _ _ h => h) ⟨by rfl, 8, #[.int .i64 (IntKind.i64.wrap (z.tdiv 60)), .int .i64 12], fun w' hw' => ?_, fun w' _ => within_any (IntKind.i64.wrap (z.tdiv 60)) 12 w' (by omega) (by omega)⟩ (cell_keep c0 K9.out) ?_
            · (try dsimp only at hw'); go_simp <;> with_reducible rfl
            try simp only [Act.put, List.setIfInBounds_toArray, List.set_cons_zero, List.set_cons_succ]
            refine' AnyTill.one (i := 23) (o := _) (by kernel_rfl) ?zt12h (fun K' hK => ?zt12k)
            case zt12h => (simp only [List.getElem?_toArray, List.getElem?_cons_succ, List.getElem?_cons_zero]; rfl)
            go_simp
            (go_at_call 26; (refine (CL.out _ K9.out ⟨_, _, _, _⟩).mono ?_); rintro e w5 ⟨q5, n5, R5, O5, rfl, hn5, st5⟩)
            have N5 := Lib.hid hn5
            refine hK.out _ _ (.inr (cell_keep HCW.out N5.out.low)) ?_
            clear hK K'
            try simp only [Act.put, List.setIfInBounds_toArray, List.set_cons_zero, List.set_cons_succ]
            refine AnyTill.done (by kernel_rfl) ?_ _
            refine NoPanic.normal ?_
            go_wp2
            go_roundg (10 - (k + 1))
            case measure => have := HGK.out; omega
            case rel => exact ⟨k + 1, _, _, _, by omega, rfl, by go_num, N5.out⟩
          case zt16y =>
            go_simp
            (go_at_call 22; (with_reducible refine (rate_some _ _).mono ?_); rintro e w9 ⟨y9, rfl, hb9⟩)
            have K9 := Lib.hid (BS.out.trans (hb9.mono BS.out.size))
            refine hK.out _ _ (.inr (cell_keep c0 K9.out)) ?_
            clear hK K'
            try simp only [Act.put, List.setIfInBounds_toArray, List.set_cons_zero, List.set_cons_succ]
            have l9 := cell_keep lit1 hb9
            refine AnyTill.takeC (i := 22) (v := .int .i64 (IntKind.i64.wrap (z.tdiv 60) % 12)) (by simp only [List.getElem?_toArray, List.getElem?_cons_succ, List.getElem?_cons_zero]; rfl) (by kernel_rfl) (by kernel_rfl) (by kernel_rfl) (by kernel_rfl) (fun _ _ _ h => h) ⟨by rfl, 8, #[.int .i64 (IntKind.i64.wrap (z.tdiv 60)), .int .i64 12], fun w' hw' => ?_, fun w' _ => within_any (IntKind.i64.wrap (z.tdiv 60)) 12 w' (by omega) (by omega)⟩ (cell_keep c0 K9.out) ?_
            · (try dsimp only at hw'); go_simp <;> with_reducible rfl
            try simp only [Act.put, List.setIfInBounds_toArray, List.set_cons_zero, List.set_cons_succ]
            refine' AnyTill.one (i := 5) (o := _) (by kernel_rfl) ?zt14h (fun K' hK => ?zt14k)
            case zt14h => (simp only [List.getElem?_toArray, List.getElem?_cons_succ, List.getElem?_cons_zero]; rfl)
            go_simp
            refine hK.out _ _ (.inr (cell_keep c0 K9.out)) ?_
            clear hK K'
            try simp only [Act.put, List.setIfInBounds_toArray, List.set_cons_zero, List.set_cons_succ]
            refine' AnyTill.one (i := 23) (o := _) (by kernel_rfl) ?zt15h (fun K' hK => ?zt15k)
            case zt15h => (simp only [List.getElem?_toArray, List.getElem?_cons_succ, List.getElem?_cons_zero]; rfl)
            go_simp
            (go_at_call 26; (refine (CL.out _ K9.out ⟨_, _, _, _⟩).mono ?_); rintro e w5 ⟨q5, n5, R5, O5, rfl, hn5, st5⟩)
            have N5 := Lib.hid hn5
            refine hK.out _ _ (.inr (cell_keep HCW.out N5.out.low)) ?_
            clear hK K'
            try simp only [Act.put, List.setIfInBounds_toArray, List.set_cons_zero, List.set_cons_succ]
            refine AnyTill.done (by kernel_rfl) ?_ _
            refine NoPanic.normal ?_
            go_wp2
            go_roundg (10 - (k + 1))
            case measure => have := HGK.out; omega
            case rel => exact ⟨k + 1, _, _, _, by omega, rfl, by go_num, N5.out⟩
        case zt20y =>
          go_simp
          (go_at_call 22; (with_reducible refine (rate_some _ _).mono ?_); rintro e w9 ⟨y9, rfl, hb9⟩)
          have K9 := Lib.hid (BD.out.trans (hb9.mono BD.out.size))
          refine hK.out _ _ (.inr (cell_keep c0 K9.out)) ?_
          clear hK K'
          try simp only [Act.put, List.setIfInBounds_toArray, List.set_cons_zero, List.set_cons_succ]
          refine AnyTill.takeC (i := 22) (v := .int .i64 (IntKind.i64.wrap (z.tdiv 60) % 12)) (by simp only [List.getElem?_toArray, List.getElem?_cons_succ, List.getElem?_cons_zero]; rfl) (by kernel_rfl) (by kernel_rfl) (by kernel_rfl) (by kernel_rfl) (fun _ _ _ h => h) ⟨by rfl, 8, #[.int .i64 (IntKind.i64.wrap (z.tdiv 60)), .int .i64 12], fun w' hw' => ?_, fun w' _ => within_any (IntKind.i64.wrap (z.tdiv 60)) 12 w' (by omega) (by omega)⟩ (cell_keep c0 K9.out) ?_
          · (try dsimp only at hw'); go_simp <;> with_reducible rfl
          try simp only [Act.put, List.setIfInBounds_toArray, List.set_cons_zero, List.set_cons_succ]
          refine' AnyTill.one (i := 1) (o := _) (by kernel_rfl) ?zt17h (fun K' hK => ?zt17k)
          case zt17h => (simp only [List.getElem?_toArray, List.getElem?_cons_succ, List.getElem?_cons_zero]; rfl)
          go_simp
          refine hK.out _ _ (.inr (cell_keep c0 (K9.out.alloc K9.out.size (.cells #[.string ⟨#[117, 107]⟩, .string ⟨#[100, 101]⟩] 9)))) ?_
          clear hK K'
          try simp only [Act.put, List.setIfInBounds_toArray, List.set_cons_zero, List.set_cons_succ]
          refine AnyTill.take (i := 4) (v := ?_) (by simp only [List.getElem?_toArray, List.getElem?_cons_succ, List.getElem?_cons_zero]; rfl) (by kernel_rfl) (by kernel_rfl) (by kernel_rfl) (by kernel_rfl) (fun _ _ _ h => h) (Or.inl ⟨by rfl, ?_⟩) (cell_keep c0 (K9.out.alloc K9.out.size (.cells #[.string ⟨#[117, 107]⟩, .string ⟨#[100, 101]⟩] 9))) ?_
          rotate_left
          · intro w' hw'; (try dsimp only at hw'); go_simp <;> with_reducible rfl
          try simp only [Act.put, List.setIfInBounds_toArray, List.set_cons_zero, List.set_cons_succ]
          refine' AnyTill.one (i := 5) (o := _) (by kernel_rfl) ?zt18h (fun K' hK => ?zt18k)
          case zt18h => (simp only [List.getElem?_toArray, List.getElem?_cons_succ, List.getElem?_cons_zero]; rfl)
          go_simp
          refine hK.out _ _ (.inr (cell_keep c0 (K9.out.alloc K9.out.size (.cells #[.string ⟨#[117, 107]⟩, .string ⟨#[100, 101]⟩] 9)))) ?_
          clear hK K'
          try simp only [Act.put, List.setIfInBounds_toArray, List.set_cons_zero, List.set_cons_succ]
          refine' AnyTill.one (i := 23) (o := _) (by kernel_rfl) ?zt19h (fun K' hK => ?zt19k)
          case zt19h => (simp only [List.getElem?_toArray, List.getElem?_cons_succ, List.getElem?_cons_zero]; rfl)
          go_simp
          (go_at_call 26; (refine (CL.out _ (K9.out.alloc K9.out.size (.cells #[.string ⟨#[117, 107]⟩, .string ⟨#[100, 101]⟩] 9)) ⟨_, _, _, _⟩).mono ?_); rintro e w5 ⟨q5, n5, R5, O5, rfl, hn5, st5⟩)
          have N5 := Lib.hid hn5
          refine hK.out _ _ (.inr (cell_keep HCW.out N5.out.low)) ?_
          clear hK K'
          try simp only [Act.put, List.setIfInBounds_toArray, List.set_cons_zero, List.set_cons_succ]
          refine AnyTill.done (by kernel_rfl) ?_ _
          refine NoPanic.normal ?_
          go_wp2
          go_roundg (10 - (k + 1))
          case measure => have := HGK.out; omega
          case rel => exact ⟨k + 1, _, _, _, by omega, rfl, by go_num, N5.out⟩
    · rcases (show ¬ k < n ∨ (k < n ∧ ¬ k < 10) by omega) with hq | ⟨hq1, hq⟩
      all_goals
        clear hlt
        go_wp2
        go_ret
        exact ⟨_, n', R, O, rfl, N1.out⟩
theorem TInv.pre (iv : TInv n R) {k : Nat} (hk : k ≤ n) : TInv k R := ⟨by have := iv.le; omega, fun i hi => iv.ok i (by omega), fun i l hi hl => iv.uniq i l (by omega) (by omega)⟩
theorem pre_terr (iv : TInv n R) {k : Nat} (hk : k < n) : TErr R k (R k).j (R k).y (R k).r (R k).p 0 := by
  refine .ok (iv.ok k hk) (fun h => ?_) (by have := iv.le; omega)
  obtain ⟨i, h1, h2, h3, h4⟩ := h
  have := iv.uniq i k (by omega) hk h2 h3 h4
  omega
theorem push_same (R : Nat → Rt) (k : Nat) : pushT R k (R k) = R := by
  funext i
  unfold pushT
  by_cases e : i = k
  · rw [if_pos e, e]
  · rw [if_neg e]
set_option maxHeartbeats 4000000 in
/-- of the document's table, the program's -/
theorem tof (h : NowT 68 w0 w O t sb n R) :
    Calls Try.prog 17 #[ptr sb] w fun e w' => ∃ sb' O', e = .returned (ptr sb') ∧ NowT 63 w w' O' 1 sb' n R ∧ Below w.heap.size w w' := by
  obtain ⟨v, s⟩ := h.st
  obtain ⟨A, cc, rfl, hc, hm, _, ha⟩ := s.at
  have c0 := s.hd.c0
  have hn := s.inv.le
  have HA := Lib.hid ha
  have IV := Lib.hid s.inv
  have KC := Lib.hid fun w1 (k : Below w.heap.size w w1) => cell_keep c0 k
  clear h s ha c0
  go_enter Try.func17, Try.ntmps17
  go_wp2_with fail
  refine (enew_any _).mono ?_
  rintro e w1 ⟨rfl, rfl⟩
  obtain ⟨nw, _⟩ := nowt_new w w (fun _ => 0) (Fin0.zero _ _) (Below.refl _ _) 63 61 1 R
  have N0 := Lib.hid nw
  have c0 := KC.out _ N0.out.low
  clear nw
  go_wp2
  go_loopg [14] n (fun gh i wr => ∃ (k : Nat) (O1 : Nat → Nat), k ≤ n ∧ gh = n - k ∧ i = .int .i64 k ∧ NowT 63 w wr O1 1 w.heap.size k R)
  case atStart => exact ⟨0, _, Nat.zero_le _, rfl, rfl, N0.out⟩
  case round =>
    obtain ⟨k, O2, hk, hgk, rfl, n2⟩ := hrel
    have HGK := Lib.hid hgk
    have N2 := Lib.hid n2
    clear hgk n2 N0
    by_cases hlt : k < n
    · obtain ⟨b, off, rfl, hb, d0, d1, d2, d3⟩ := (HA.out.below N2.out.low).four hlt
      have CA := Lib.hid fun w3 (q : Below wr.heap.size wr w3) => nadd_ok (N2.out.below q) (by decide) (R k) (pre_terr IV.out hlt)
      go_wp2_with fail
      refine (CA.out _ ((Below.refl _ _).alloc (Nat.le_refl _) _)).mono ?_
      rintro e w3 ⟨rfl, O3, n3, st3⟩
      rw [push_same] at n3
      have N3 := Lib.hid n3
      clear n3 st3 CA d0 d1 d2 d3
      go_wp2
      go_roundg (n - (k + 1))
      case measure => have := HGK.out; omega
      case rel => exact ⟨k + 1, O3, by omega, rfl, by go_num, N3.out⟩
    · obtain rfl : k = n := by omega
      clear hlt
      go_wp2
      go_ret
      exact ⟨_, O2, rfl, N2.out, N2.out.low⟩
end
end Go.Proofs.Ytnhnimchjbhnfaa
