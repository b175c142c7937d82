/- The document's own losses: Add: a contract. -/
import Derived.Test.YtmeljcogoeghaaaRVint
import Derived.Test.YtmeljcogoeghaaaVnMath3
import Derived.WalkKit
import Derived.WalkSpells
import Derived.WalkLawsBesides
import Derived.Lib.Hide
import Derived.IntWalk
import Derived.Deep.LoopGhost
namespace Go.Proofs.Ytmeljcogoeghaaa
open Go.RowKit

section
variable {w w1 : World} {O O1 : Nat → Nat} {base t t' sb n : Nat} {v : Value} {g : Nat → Bk} {S : Int → Int → Int}
set_option maxHeartbeats 4000000 in
set_option maxRecDepth 100000 in
/-- a loss that is refused ahead of all -/
theorem rladd_no (s : LV w O base t sb v n g) (iv : VInv S n g) (c y a e : Int) (he : AErr S n (btot g n) c y a e) (h1 : e = 1 ∨ e = 6) :
    Calls Try.prog 39 #[ptr sb, .int .i64 y, .int .i64 c, .int .i64 a] w fun e' w' => e' = .returned (.int .i64 e) ∧ Below w.heap.size w w' := by
  have HS := Lib.hid s
  have HI := Lib.hid iv
  have hn : n ≤ 1000 := by have := iv.le; omega
  cases he
  case ok => omega
  case limit => omega
  case arg ha =>
    clear s iv h1
    unfold VOk at ha
    by_cases hy : 0 ≤ y ∧ y ≤ 99
    · have R1 := Lib.hid fun w => ryr_yes y w hy.1 hy.2
      obtain ⟨hy1, hy2⟩ := hy
      by_cases q1 : c < y
      · clear ha
        go_enter Try.func39, Try.ntmps39
        go_wp2_with (go_at_call 41; (with_reducible refine (R1.out _).mono ?_); rintro e w' ⟨rfl, rfl⟩)
        go_ret
        exact ⟨rfl, Below.refl _ _⟩
      · have d1 : decide (c < y) = false := by simpa using q1
        by_cases q2 : 198 < c
        · clear ha q1
          go_enter Try.func39, Try.ntmps39
          go_wp2_with (go_at_call 41; (with_reducible refine (R1.out _).mono ?_); rintro e w' ⟨rfl, rfl⟩)
          go_ret
          exact ⟨rfl, Below.refl _ _⟩
        · have d2 : decide (198 < c) = false := by simpa using q2
          by_cases q3 : a < 1
          · clear ha q1 q2
            go_enter Try.func39, Try.ntmps39
            go_wp2_with (go_at_call 41; (with_reducible refine (R1.out _).mono ?_); rintro e w' ⟨rfl, rfl⟩)
            go_ret
            exact ⟨rfl, Below.refl _ _⟩
          · have d3 : decide (a < 1) = false := by simpa using q3
            have q4 : 100000000000 < a := by omega
            clear ha q1 q2 q3
            go_enter Try.func39, Try.ntmps39
            go_wp2_with (go_at_call 41; (with_reducible refine (R1.out _).mono ?_); rintro e w' ⟨rfl, rfl⟩)
            go_ret
            exact ⟨rfl, Below.refl _ _⟩
    · have R1 := Lib.hid fun w => ryr_no y w (by omega)
      clear ha hy
      go_enter Try.func39, Try.ntmps39
      go_wp2_with (go_at_call 41; (with_reducible refine (R1.out _).mono ?_); rintro e w' ⟨rfl, rfl⟩)
      go_ret
      exact ⟨rfl, Below.refl _ _⟩
  case over ha ho =>
    obtain ⟨hv, ha1, ha2⟩ := ha
    unfold VOk at hv
    obtain ⟨hy1, hy2, hc1, hc2⟩ := hv
    have R1 := Lib.hid fun w => ryr_yes y w hy1 hy2
    have CT := Lib.hid (rlleft s hn fun j hj => iv.mon hj)
    have t1 := iv.low
    have t2 := iv.all
    obtain ⟨T, eT⟩ : ∃ T, btot g n = T := ⟨_, rfl⟩
    rw [eT] at ho t1 t2 CT
    have ew : IntKind.i64.wrap (T + a) = T + a := IntWalk.i64_in _ (by omega)
    have d1 : decide (c < y) = false := by simpa using hc1
    have d2 : decide (198 < c) = false := by simpa using hc2
    have d3 : decide (a < 1) = false := by simp; omega
    have d4 : decide (100000000000 < a) = false := by simpa using ha2
    clear s iv h1 eT
    go_enter Try.func39, Try.ntmps39
    go_wp2_with (first | (go_at_call 41; (with_reducible refine (R1.out _).mono ?_); rintro e w' ⟨rfl, rfl⟩) | (go_at_call 61; (with_reducible refine (CT.out).mono ?_); rintro e w1 ⟨rfl, hb1⟩; have K1 := Lib.hid hb1; clear hb1))
    go_ret
    exact ⟨rfl, K1.out⟩
set_option maxHeartbeats 8000000 in
set_option maxRecDepth 100000 in
/-- a loss that is right: taken, or one too many -/
theorem rladd (s : LV w O base t sb v n g) (iv : VInv S n g) (fn : Fin0 base O w) (hbase : base ≤ w.heap.size) (c y a X : Int) (hX : X = S c y + a) (h1 : VOk c y ∧ 1 ≤ a ∧ a ≤ 100000000000) (h2 : btot g n + a ≤ 100000000000) :
    Calls Try.prog 39 #[ptr sb, .int .i64 y, .int .i64 c, .int .i64 a] w fun e w' => ∃ (m : Nat) (h : Nat → Bk), ∃ r : Int, e = .returned (.int .i64 r) ∧ VIs (upS S c y X) m h ∧ ((12 < m ∧ r = 5 ∧ Below w.heap.size w w') ∨ (m ≤ 12 ∧ r = 0 ∧ ∃ v' O', LV w' O' base t sb v' m h ∧ Step base O t w O' w')) := by
  obtain ⟨i0, hi, hz0, hz1, hz2⟩ := info_parts vn_info
  have hn : n ≤ 1000 := by have := iv.le; omega
  have CT := Lib.hid (rlleft s hn fun j hj => iv.mon hj)
  have c0 := s.hd.c0
  have lt0 := s.hd.lt
  have g0 := s.hd.frz 0
  obtain ⟨A, cc, rfl, hc, hm, _, ha⟩ := s.at
  have hx0 : X ≠ 0 := by have := (iv.at c y).1; omega
  have xb : 1 ≤ X ∧ X ≤ 100000000000 := by have := iv.at c y; omega
  have HA := Lib.hid ha
  have HB := Lib.hid iv.is
  have HS := Lib.hid s
  have HF := Lib.hid fn
  have OK := Lib.hid h1.1
  have EX := Lib.hid hX
  have X0 := Lib.hid hx0
  have HN := Lib.hid hn
  obtain ⟨hv, ha1, ha2⟩ := h1
  unfold VOk at hv
  obtain ⟨hy1, hy2, hc1, hc2⟩ := hv
  have R1 := Lib.hid fun w => ryr_yes y w hy1 hy2
  have t1 := iv.low
  obtain ⟨T, eT⟩ : ∃ T, btot g n = T := ⟨_, rfl⟩
  rw [eT] at h2 t1 CT
  have ew : IntKind.i64.wrap (T + a) = T + a := IntWalk.i64_in _ (by omega)
  have d1 : decide (c < y) = false := by simpa using hc1
  have d2 : decide (198 < c) = false := by simpa using hc2
  have d3 : decide (a < 1) = false := by simp; omega
  have d4 : decide (100000000000 < a) = false := by simpa using ha2
  have d5 : decide (100000000000 < T + a) = false := by simpa using h2
  have XB := Lib.hid xb
  clear s iv ha fn hX hx0 hn eT t1 h2 hy1 hy2 hc1 hc2 ha1 ha2 xb hc hm
  go_enter Try.func39, Try.ntmps39
  go_wp2_with (first | (go_at_call 41; (with_reducible refine (R1.out _).mono ?_); rintro e w' ⟨rfl, rfl⟩) | (go_at_call 61; (with_reducible refine (CT.out).mono ?_); rintro e w1 ⟨rfl, hb1⟩; have K1 := Lib.hid hb1; have z0 := cell_keep c0 hb1; clear hb1))
  go_loopg [9, 10, 43] n (fun gh s9 s10 i wr => ∃ (k m : Nat) (h : Nat → Bk) (ins : Bool), k ≤ n ∧ gh = n - k ∧ i = .int .i64 k ∧ s10 = .bool ins ∧ AIn g n k c y X ins m h ∧ m ≤ k + 1 ∧ OwnR ve 3 wr 35 w.heap.size s9 m h ∧ Below w.heap.size w wr)
  case atStart => exact ⟨0, 0, g, false, Nat.zero_le _, rfl, rfl, rfl, AIn.zero _ _ _ _ _ _, by omega, OwnR.nil _ _ _ _ _ _, K1.out⟩
  case round =>
    obtain ⟨k, m, h, ins, hk, hgk, rfl, rfl, hsi, hmk, ho, hbw⟩ := hrel
    have HGK := Lib.hid hgk
    have HW := Lib.hid hbw
    have SI := Lib.hid hsi
    have HO := Lib.hid ho
    have hz := hbw.size
    have hn := HN.out
    clear hgk hbw hsi ho
    by_cases hlt : k < n
    · obtain ⟨b, off, rfl, hb, k0', k1', k2'⟩ := (HA.out.below HW.out).threeV hlt
      by_cases hcc : (g k).c = c ∧ (g k).y = y
      · have HC := Lib.hid hcc
        have p1 : ((g k).y == y) = true := by simpa using hcc.2
        have p2 : ((g k).c == c) = true := by simpa using hcc.1
        obtain ⟨hs1, hs2⟩ := SI.out.same HB.out EX.out X0.out OK.out hlt hcc
        have SN := Lib.hid hs1
        have ewx : IntKind.i64.wrap ((g k).a + a) = X := by rw [hs2]; exact IntWalk.i64_in _ (by have := XB.out; omega)
        clear hcc hs1 hs2
        go_wp2_with (at_builtin; (refine wpList_push_r rfl (.tmp 89) (.tmp 91) rfl vn_type hi hz0 hz1 hz2 (by decide) rfl (by decide) ve_len ve_one w w.heap.size m (wr.heap.size + 1) _ h ⟨(g k).c, (g k).y, X⟩ rfl rfl (rec_lit (wr.alloc _) (ve ⟨(g k).c, (g k).y, X⟩) 35 _ (by simp)) ((HO.out.alloc _).alloc _) (by omega) ((HW.out.alloc hz _).alloc (by simp; omega) _) (by simp; omega) _ rfl ?_; intro b2 c3 w6 ho2 hb2 hg2 hat2; have HO2 := Lib.hid ho2; have HW2 := Lib.hid hb2; clear ho2 hb2 hg2 hat2))
        go_roundg (n - (k + 1))
        case measure => have := HGK.out; omega
        case rel => exact ⟨k + 1, m + 1, _, true, by omega, rfl, by go_num, rfl, SN.out, by omega, by have q := HO2.out; rw [HC.out.1, HC.out.2] at q; exact q, HW2.out⟩
      · have HC := Lib.hid hcc
        have ways : (((g k).y == y) = false) ∨ (((g k).y == y) = true ∧ ((g k).c == c) = false) := by
          by_cases q1 : (g k).y = y
          · exact .inr ⟨by simpa using q1, by simpa using fun q2 => hcc ⟨q2, q1⟩⟩
          · exact .inl (by simpa using q1)
        cases ins with
        | true =>
          have SN := Lib.hid (SI.out.ahead HB.out hlt hcc (.inl rfl))
          clear hcc
          rcases ways with p1 | ⟨p1, p2⟩
          all_goals
            go_wp2_with (at_builtin; (refine wpList_push_r rfl (.tmp 89) (.tmp 91) rfl vn_type hi hz0 hz1 hz2 (by decide) rfl (by decide) ve_len ve_one w w.heap.size m (wr.heap.size + 1) _ h (g k) rfl rfl (rec_lit (wr.alloc _) (ve (g k)) 35 _ (by simp)) ((HO.out.alloc _).alloc _) (by omega) ((HW.out.alloc hz _).alloc (by simp; omega) _) (by simp; omega) _ rfl ?_; intro b2 c3 w6 ho2 hb2 hg2 hat2; have HO2 := Lib.hid ho2; have HW2 := Lib.hid hb2; clear ho2 hb2 hg2 hat2))
            go_roundg (n - (k + 1))
            case measure => have := HGK.out; omega
            case rel => exact ⟨k + 1, m + 1, _, true, by omega, rfl, by go_num, rfl, SN.out, by omega, HO2.out, HW2.out⟩
        | false =>
          by_cases hl : Bl c y (g k).c (g k).y
          · obtain ⟨ea, hs1⟩ := SI.out.between HB.out EX.out X0.out OK.out hlt hl
            subst ea
            have SN := Lib.hid hs1
            have lw : (decide (c < (g k).c) = true) ∨ (decide (c < (g k).c) = false ∧ ((g k).c == c) = true ∧ decide (y < (g k).y) = true) := by
              unfold Bl at hl
              by_cases q1 : c < (g k).c
              · exact .inl (by simpa using q1)
              · exact .inr ⟨by simpa using q1, by simp; omega, by simp; omega⟩
            clear hcc hs1 hl
            rcases ways with p1 | ⟨p1, p2⟩ <;> rcases lw with l1 | ⟨l1, l2, l3⟩
            all_goals first
              | (exfalso; rw [l2] at p2; cases p2)
              | (go_wp2_with (first | (at_builtin; (refine wpList_push_r rfl (.tmp 82) (.tmp 87) rfl vn_type hi hz0 hz1 hz2 (by decide) rfl (by decide) ve_len ve_one w w.heap.size m (wr.heap.size + 1) _ h ⟨c, y, a⟩ rfl rfl (rec_lit (wr.alloc _) (ve ⟨c, y, a⟩) 35 _ (by simp)) ((HO.out.alloc _).alloc _) (by omega) ((HW.out.alloc hz _).alloc (by simp; omega) _) (by simp; omega) _ rfl ?_; intro b2 c3 w6 ho2 hb2 hg2 hat2; have hcell : ∀ j u, (ve (g k))[j]? = some u → w6.cell? ⟨wr.heap.size, j, none⟩ = some u := (fun j u hu => (World.cell?_of_block (a := ⟨wr.heap.size, j, none⟩) (hg2.block wr.heap.size (by simp; omega) (fun e => by have := (World.ownsRow.lt HO.out _ e.symm).2; omega))).trans (cell_keep (rec_lit wr (ve (g k)) 35 wr.heap.size rfl j u hu) ((Below.refl _ _).alloc (Nat.le_refl _) _))); have k0 := hcell 0 _ rfl; have k1 := hcell 1 _ rfl; have k2 := hcell 2 _ rfl; have HO2 := Lib.hid ho2; have HW2 := Lib.hid hb2; have hz6 := hb2.size; clear hcell; clear ho2 hb2 hg2 hat2)) | (at_builtin; (refine wpList_push_r rfl (.tmp 89) (.tmp 91) rfl vn_type hi hz0 hz1 hz2 (by decide) rfl (by decide) ve_len ve_one w w.heap.size (m + 1) w6.heap.size _ (pushB h m ⟨c, y, a⟩) (g k) rfl rfl (rec_lit w6 (ve (g k)) 35 _ rfl) (HO2.out.alloc _) (by omega) (HW2.out.alloc hz6 _) (by simp; omega) _ rfl ?_; intro b2 c3 w8 ho2 hb2 hg2 hat2; have HO4 := Lib.hid ho2; have HW4 := Lib.hid hb2; clear ho2 hb2 hg2 hat2)))
                 go_roundg (n - (k + 1))
                 case measure => have := HGK.out; omega
                 case rel => exact ⟨k + 1, m + 1 + 1, _, true, by omega, rfl, by go_num, rfl, SN.out, by have := SI.out.set.size.2 rfl; omega, HO4.out, HW4.out⟩)
          · have SN := Lib.hid (SI.out.ahead HB.out hlt hcc (.inr hl))
            have lw : decide (c < (g k).c) = false ∧ (((g k).c == c) = false ∨ (((g k).c == c) = true ∧ decide (y < (g k).y) = false)) := by
              unfold Bl at hl
              refine ⟨by simp; omega, ?_⟩
              by_cases q1 : (g k).c = c
              · exact .inr ⟨by simpa using q1, by simp; omega⟩
              · exact .inl (by simpa using q1)
            obtain ⟨l1, lw⟩ := lw
            clear hcc hl
            rcases ways with p1 | ⟨p1, p2⟩ <;> rcases lw with l2 | ⟨l2, l3⟩
            all_goals
              go_wp2_with (at_builtin; (refine wpList_push_r rfl (.tmp 89) (.tmp 91) rfl vn_type hi hz0 hz1 hz2 (by decide) rfl (by decide) ve_len ve_one w w.heap.size m (wr.heap.size + 1) _ h (g k) rfl rfl (rec_lit (wr.alloc _) (ve (g k)) 35 _ (by simp)) ((HO.out.alloc _).alloc _) (by omega) ((HW.out.alloc hz _).alloc (by simp; omega) _) (by simp; omega) _ rfl ?_; intro b2 c3 w6 ho2 hb2 hg2 hat2; have HO2 := Lib.hid ho2; have HW2 := Lib.hid hb2; clear ho2 hb2 hg2 hat2))
              go_roundg (n - (k + 1))
              case measure => have := HGK.out; omega
              case rel => exact ⟨k + 1, m + 1, _, false, by omega, rfl, by go_num, rfl, SN.out, by omega, HO2.out, HW2.out⟩
    · obtain rfl : k = n := by omega
      clear hlt
      have e0 := cell_keep c0 HW.out
      have f0 := (HW.out.frozen (p := ⟨sb, 0, none⟩) lt0).trans g0
      cases ins with
      | false =>
        obtain ⟨ea, hl⟩ := SI.out.last HB.out EX.out X0.out OK.out
        subst ea
        have HL := Lib.hid hl
        clear hl
        by_cases h12 : 12 < (m : Int) + 1
        · have d12 : decide (12 < (m : Int) + 1) = true := by simpa using h12
          have H12 := Lib.hid h12
          clear h12
          go_wp2_with (at_builtin; (refine wpList_push_r rfl (.tmp 96) (.tmp 101) rfl vn_type hi hz0 hz1 hz2 (by decide) rfl (by decide) ve_len ve_one w w.heap.size m wr.heap.size _ h ⟨c, y, a⟩ rfl rfl (rec_lit wr (ve ⟨c, y, a⟩) 35 _ rfl) (HO.out.alloc _) (by omega) (HW.out.alloc hz _) (by simp; omega) _ rfl ?_; intro b2 c3 w6 ho2 hb2 hg2 hat2; have e0 := cell_keep c0 hb2; have e1 := (hb2.frozen (p := ⟨sb, 0, none⟩) lt0).trans g0; have HO2 := Lib.hid ho2; have HW2 := Lib.hid hb2; clear ho2 hb2 hg2 hat2))
          go_ret
          exact ⟨m + 1, _, _, rfl, HL.out, .inl ⟨by have := H12.out; omega, rfl, HW2.out⟩⟩
        · have d12 : decide (12 < (m : Int) + 1) = false := by simpa using h12
          have H12 := Lib.hid h12
          clear h12
          go_wp2_with (at_builtin; (refine wpList_push_r rfl (.tmp 96) (.tmp 101) rfl vn_type hi hz0 hz1 hz2 (by decide) rfl (by decide) ve_len ve_one w w.heap.size m wr.heap.size _ h ⟨c, y, a⟩ rfl rfl (rec_lit wr (ve ⟨c, y, a⟩) 35 _ rfl) (HO.out.alloc _) (by omega) (HW.out.alloc hz _) (by simp; omega) _ rfl ?_; intro b2 c3 w6 ho2 hb2 hg2 hat2; have e0 := cell_keep c0 hb2; have e1 := (hb2.frozen (p := ⟨sb, 0, none⟩) lt0).trans g0; have HO2 := Lib.hid ho2; have HW2 := Lib.hid hb2; clear ho2 hb2 hg2 hat2))
          go_ret
          obtain ⟨O', q1, q2⟩ := LV.takes HS.out HF.out hbase HW2.out HO2.out
          exact ⟨m + 1, _, _, rfl, HL.out, .inr ⟨by have := H12.out; omega, rfl, _, O', q1, q2⟩⟩
      | true =>
        have HL := Lib.hid (SI.out.fin HB.out)
        obtain ⟨A8, c8, rfl, _, _, _⟩ := HO.out.form
        by_cases h12 : 12 < (m : Int)
        · have d12 : decide (12 < (m : Int)) = true := by simpa using h12
          have H12 := Lib.hid h12
          clear h12
          go_wp2
          go_ret
          exact ⟨m, _, _, rfl, HL.out, .inl ⟨by have := H12.out; omega, rfl, HW.out⟩⟩
        · have d12 : decide (12 < (m : Int)) = false := by simpa using h12
          have H12 := Lib.hid h12
          clear h12
          go_wp2
          go_ret
          obtain ⟨O', q1, q2⟩ := LV.takes HS.out HF.out hbase HW.out HO.out
          exact ⟨m, _, _, rfl, HL.out, .inr ⟨by have := H12.out; omega, rfl, _, O', q1, q2⟩⟩
end
end Go.Proofs.Ytmeljcogoeghaaa
