/- The document's own losses: Take: a contract. -/
import Derived.Test.YtmeljcogoeghaaaRVint3
import Derived.WalkKit
import Derived.WalkSpells
import Derived.WalkLawsBesides
import Derived.Lib.Hide
import Derived.IntWalk
import Derived.BigQuiet
import Derived.Deep.LoopGhost
import Derived.Deep.RegionLaw
import Derived.Deep.QuietTactic
namespace Go.Proofs.Ytmeljcogoeghaaa
open Go.RowKit

section
variable {w w1 : World} {O O1 : Nat → Nat} {base t t' sb n : Nat} {v : Value} {g : Nat → Bk} {S : Int → Int → Int}
/-- as many numbers as there are losses, each within what is left -/
def UOk (n : Nat) (g : Nat → Bk) (q : Nat) (u : Nat → Int) : Prop := q = n ∧ ∀ j, j < n → 0 ≤ u j ∧ u j ≤ (g j).a
set_option maxHeartbeats 8000000 in
set_option maxRecDepth 100000 in
theorem rltake (s : LV w O base t sb v n g) (iv : VInv S n g) (fn : Fin0 base O w) (hbase : base ≤ w.heap.size) {U : Option Addr} {q c : Nat} {u : Nat → Int} (hu : At w U q u) (_hq : q ≤ 1000000) :
    Calls Try.prog 48 #[ptr sb, .slice U q c] w fun e w' => ∃ r : Int, e = .returned (.int .i64 r) ∧ ((r = 1 ∧ ¬ UOk n g q u ∧ Below w.heap.size w w') ∨ (r = 0 ∧ UOk n g q u ∧ ∃ v' m h O', LV w' O' base t sb v' m h ∧ Flt n (lessG g u) n m h ∧ Step base O t w O' w')) := by
  obtain ⟨i0, hi, hz0, hz1, hz2⟩ := info_parts vn_info
  have c0 := s.hd.c0
  have lt0 := s.hd.lt
  have g0 := s.hd.frz 0
  obtain ⟨A, cc, rfl, hc, hm, _, ha⟩ := s.at
  have hn : n ≤ 1000 := by have := iv.le; omega
  have HN := Lib.hid hn
  have HA := Lib.hid ha
  have HI := Lib.hid iv
  have HS := Lib.hid s
  have HF := Lib.hid fn
  have HU := Lib.hid hu
  by_cases hqn : q = n
  · subst hqn
    have ee : ((q : Int) != (q : Int)) = false := by simp
    clear s iv ha fn hn hc hm hu
    go_enter Try.func48, Try.ntmps48
    go_wp2
    go_loopg [5, 21] q (fun gh s5 i wr => ∃ (k m : Nat) (h : Nat → Bk), k ≤ q ∧ gh = q - k ∧ i = .int .i64 k ∧ (∀ j, j < k → 0 ≤ u j ∧ u j ≤ (g j).a) ∧ Flt q (lessG g u) k m h ∧ OwnR ve 3 wr 35 w.heap.size s5 m h ∧ Below w.heap.size w wr)
    case atStart => exact ⟨0, 0, g, Nat.zero_le _, rfl, rfl, fun j hj => by omega, Flt.zero _ _ _, OwnR.nil _ _ _ _ _ _, Below.refl _ _⟩
    case round =>
      obtain ⟨k, m, h, hk, hgk, rfl, hok, hf, ho, hbw⟩ := hrel
      have HGK := Lib.hid hgk
      have HW := Lib.hid hbw
      have FL := Lib.hid hf
      have HO := Lib.hid ho
      have HK := Lib.hid hok
      have hmk := hf.le
      have hz := hbw.size
      have hn := HN.out
      clear hgk hbw hf ho hok
      by_cases hlt : k < q
      · obtain ⟨b, off, rfl, hb, k0, k1, k2⟩ := (HA.out.below HW.out).threeV hlt
        obtain ⟨bu, ou, rfl, hbu, hcu⟩ := (HU.out.below HW.out).some (show 0 < q by omega)
        have cu := hcu k hlt
        have i1 : (0 : Int) ≤ (k : Int) := by omega
        have i2 : (k : Int) < (q : Int) := by omega
        obtain ⟨x, hx⟩ : ∃ x, u k = x := ⟨_, rfl⟩
        obtain ⟨L, hL⟩ : ∃ L, (g k).a = L := ⟨_, rfl⟩
        rw [hx] at cu
        rw [hL] at k2
        have HX := Lib.hid hx
        have HL := Lib.hid hL
        have lb := HI.out.mon hlt
        rw [hL] at lb
        have hp := HI.out.pos k hlt
        rw [hL] at hp
        unfold Mon at lb
        clear hx hL hcu
        by_cases h1 : x < 0
        · have hbad : Hid (¬ UOk q g q u) := Lib.hid fun z => by have := (z.2 k hlt).1; rw [HX.out] at this; omega
          have d1 : decide (x < 0) = true := by simpa using h1
          clear h1 lb hp
          go_wp2
          go_big_quiet (fail)
          go_wp2
          go_ret
          exact ⟨_, rfl, .inl ⟨rfl, hbad.out, below_drewN (HW.out.alloc hz _) _⟩⟩
        · by_cases h2 : L < x
          · have hbad : Hid (¬ UOk q g q u) := Lib.hid fun z => by have := (z.2 k hlt).2; rw [HX.out, HL.out] at this; omega
            have d1 : decide (x < 0) = false := by simpa using h1
            have d2 : decide (L < x) = true := by simpa using h2
            clear h1 h2 lb hp
            go_wp2
            go_big_quiet (fail)
            go_wp2
            go_ret
            exact ⟨_, rfl, .inl ⟨rfl, hbad.out, below_drewN (HW.out.alloc hz _) _⟩⟩
          · have d1 : decide (x < 0) = false := by simpa using h1
            have d2 : decide (L < x) = false := by simpa using h2
            have ew : IntKind.i64.wrap (L - x) = L - x := IntWalk.i64_in _ (by omega)
            have HK2 : Hid (∀ j, j < k + 1 → 0 ≤ u j ∧ u j ≤ (g j).a) := Lib.hid fun j hj => by
              by_cases e : j = k
              · rw [e, HX.out, HL.out]; omega
              · exact HK.out j (by omega)
            have eg : Hid (lessG g u k = ⟨(g k).c, (g k).y, L - x⟩) := Lib.hid (by unfold lessG; rw [HX.out, HL.out])
            by_cases hz0 : L - x = 0
            · have FN := Lib.hid (FL.out.skip (by rw [eg.out]; exact hz0))
              have d3 : decide (x < L) = false := by simp; omega
              clear h1 h2 lb hp hz0
              go_wp2
              go_big_quiet (fail)
              go_wp2
              obtain ⟨w8, hw8⟩ : ∃ w8, w8 = ((wr.alloc (.cells #[.int .i64 (g k).y, .int .i64 (g k).c, .int .i64 L] 35)).drewN (nq + 1)).setCell ⟨wr.heap.size, 2, none⟩ (.int .i64 (L - x)) := ⟨_, rfl⟩
              have HB8 : Hid (Below wr.heap.size wr w8) := Lib.hid (by rw [hw8]; exact (below_drewN ((Below.refl _ _).alloc (Nat.le_refl _) _) _).setCell (Nat.le_refl _) _)
              have HS8 : Hid (w8.heap.size = wr.heap.size + 1) := Lib.hid (by rw [hw8]; simp)
              have HO8 := Lib.hid (HO.out.below HB8.out)
              have HW8 := Lib.hid (HW.out.trans (HB8.out.mono hz))
              go_region_law (fail)
              all_goals
                go_wp2
                rw [← hw8]
                go_roundg (q - (k + 1))
                case measure => have := HGK.out; omega
                case rel => exact ⟨k + 1, m, h, by omega, rfl, by go_num, HK2.out, FN.out, HO8.out, HW8.out⟩
            · have FN := Lib.hid (FL.out.keep hlt (fun j hj => HI.out.is.1.ok j hj) (fun i j hi hj => HI.out.is.1.asc i j hi hj) (by rw [eg.out]; exact hz0))
              have d3 : decide (x < L) = true := by simp; omega
              rw [eg.out] at FN
              clear h1 h2 lb hp hz0
              go_wp2
              go_big_quiet (fail)
              go_wp2
              obtain ⟨w8, hw8⟩ : ∃ w8, w8 = ((wr.alloc (.cells #[.int .i64 (g k).y, .int .i64 (g k).c, .int .i64 L] 35)).drewN (nq + 1)).setCell ⟨wr.heap.size, 2, none⟩ (.int .i64 (L - x)) := ⟨_, rfl⟩
              have HB8 : Hid (Below wr.heap.size wr w8) := Lib.hid (by rw [hw8]; exact (below_drewN ((Below.refl _ _).alloc (Nat.le_refl _) _) _).setCell (Nat.le_refl _) _)
              have HS8 : Hid (w8.heap.size = wr.heap.size + 1) := Lib.hid (by rw [hw8]; simp)
              have HO8 := Lib.hid (HO.out.below HB8.out)
              have HW8 := Lib.hid (HW.out.trans (HB8.out.mono hz))
              have HC8 := Lib.hid (rec_lit w8 (ve ⟨(g k).c, (g k).y, L - x⟩) 35 (wr.heap.size + 1) HS8.out)
              have HW9 := Lib.hid (HW8.out.alloc HW8.out.size (.cells (ve ⟨(g k).c, (g k).y, L - x⟩).toArray 35))
              have HZ9 := Lib.hid HW9.out.size
              go_region_law (fail)
              all_goals
                go_wp2_with (at_builtin; rw [← hw8]; (refine wpList_push_r rfl (.tmp 51) (.tmp 53) rfl vn_type hi hz0 hz1 hz2 (by decide) rfl (by decide) ve_len ve_one w w.heap.size m (wr.heap.size + 1) _ h ⟨(g k).c, (g k).y, L - x⟩ rfl rfl HC8.out (HO8.out.alloc _) (by omega) HW9.out HZ9.out _ rfl ?_; intro b2 c3 w6 ho2 hb2 hg2 hat2; have HO2 := Lib.hid ho2; have HW2 := Lib.hid hb2; clear ho2 hb2 hg2 hat2))
                go_roundg (q - (k + 1))
                case measure => have := HGK.out; omega
                case rel => exact ⟨k + 1, m + 1, _, by omega, rfl, by go_num, HK2.out, FN.out, HO2.out, HW2.out⟩
      · obtain rfl : k = q := by omega
        clear hlt
        have e0 := cell_keep c0 HW.out
        have f0 := (HW.out.frozen (p := ⟨sb, 0, none⟩) lt0).trans g0
        obtain ⟨A8, c8, rfl, _, _, _⟩ := HO.out.form
        go_wp2
        go_ret
        obtain ⟨O', q1, q2⟩ := LV.takes HS.out HF.out hbase HW.out HO.out
        exact ⟨_, rfl, .inr ⟨rfl, ⟨rfl, HK.out⟩, _, _, _, O', q1, FL.out, q2⟩⟩
  · have ee : ((q : Int) != (n : Int)) = true := by simp; omega
    have HQ := Lib.hid hqn
    clear s iv ha fn hn hc hm hu hqn
    go_enter Try.func48, Try.ntmps48
    go_wp2
    go_ret
    exact ⟨_, rfl, .inl ⟨rfl, fun z => HQ.out z.1, Below.refl _ _⟩⟩
end
end Go.Proofs.Ytmeljcogoeghaaa
