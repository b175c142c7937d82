/- RateTells: its walk. -/
import Derived.Test.YtbealifdnllimaaRefSum
import Derived.WalkKit
import Derived.WalkSpells
import Derived.WalkLawsBesides
import Derived.Lib.Hide
import Derived.Deep.DeepCutAuto
namespace Go.Proofs.Ytbealifdnllimaa
open Go.RowKit

/-- the row holds some numbers, and what was there when the call began is as it was -/
def Some (w : World) (b n : Nat) (wr : World) : Prop := Below w.heap.size w wr ∧ ∃ h, Row wr b n h
theorem Some.next {w wr : World} {b n k : Nat} (f : Some w b n wr) (hk : k < n) (hb : w.heap.size ≤ b) (y : Int) : Some w b n (wr.setCell ⟨b, k, none⟩ (.int .i64 y)) :=
  ⟨f.1.setCell hb _, _, f.2.choose_spec.set hk y⟩
set_option maxHeartbeats 8000000 in
set_option maxRecDepth 100000 in
theorem rateTells_walk (a0 a1 a2 : Int) (a3 : Option Addr) (len3 cap3 : Nat) (z3 : List Int) (w : World) (_w0 : (Lit.int .i64 a0).wf = true) (_w1 : (Lit.int .i64 a1).wf = true) (_w2 : (Lit.int .i64 a2).wf = true) (w3 : IsRow .i64 w a3 len3 cap3 z3) :
    Calls Try.prog 6 #[.int .i64 a0, .int .i64 a1, .int .i64 a2, .slice a3 len3 cap3] w fun e w' => e = .returned (.bool true) ∧ Below w.heap.size w w' := by
  obtain ⟨hc, hl, hlc, hcm, hA, hwf⟩ := w3.cells
  clear hwf
  obtain ⟨zs, hzs⟩ : ∃ zs, zs = z3.take len3 := ⟨_, rfl⟩
  rw [← hzs] at hc hl
  clear hzs w3
  clear z3
  have HC := Lib.hid hc
  have HL := Lib.hid hl
  have HA := Lib.hid hA
  clear hc hl hA
  obtain ⟨n, hn⟩ : ∃ n, n = min len3 12 := ⟨_, rfl⟩
  have hn12 : n ≤ 12 := by omega
  have hlen : (zs.take 12).length = n := by have := HL.out; simp; omega
  have cc : ∀ w', Below w.heap.size w w' → Calls Try.prog 24 #[.slice a3 len3 cap3, .int .i64 12] w' fun e w1 => ∃ v, e = .returned v ∧ w1.ownsRow w'.heap.size 3 1 v n ((zs.take 12).map (Value.int .i64)) ∧ w'.grownBy w1 none := by
    intro w' hb
    rw [hn]
    exact cut_ints a3 len3 cap3 _ 12 zs w' (HC.out.below hb) HL.out hlc hcm (by omega) HA.out
  have CC := Lib.hid cc
  clear cc HC HL HA
  clear hn hlc hcm
  obtain ⟨ys, hys⟩ : ∃ ys, ys = zs.take 12 := ⟨_, rfl⟩
  rw [← hys] at hlen CC
  clear hys
  clear zs
  have HLEN := Lib.hid hlen; clear hlen
  go_enter Try.func6, Try.ntmps6
  go_upto_if 32 with fail
  go_cut [0, 1] (fun s0 s1 wx => ∃ N R : Int, s0 = .int .i64 N ∧ s1 = .int .i64 R ∧ Hid (Below w.heap.size w wx))
  case first =>
    go_wp2_with (first | (go_at_call 18; (with_reducible refine (amount_some _ _).mono ?_); rintro e w' ⟨y, rfl, rfl⟩) | (go_at_call 19; (with_reducible refine (rate_some _ _).mono ?_); rintro e w1 ⟨y, rfl, hb⟩))
    all_goals
      go_meet
      first
      | exact ⟨_, _, rfl, rfl, Lib.hid (Below.refl _ _)⟩
      | exact ⟨_, _, rfl, rfl, Lib.hid hb⟩
  case rest =>
    obtain ⟨N, R, rfl, rfl, HB⟩ := hcut
    go_upto_if 39 with fail
    go_cut [0, 1] (fun s0 s1 wx => ∃ N R : Int, s0 = .int .i64 N ∧ s1 = .int .i64 R ∧ Hid (Below w.heap.size w wx))
    case first =>
      go_wp2_with (first | (go_at_call 10; (with_reducible refine (within_some _ _ _ (by omega) (by omega)).mono ?_); rintro e w' ⟨x, hx1, hx2, rfl, rfl⟩))
      all_goals
        go_meet
        exact ⟨_, _, rfl, rfl, HB⟩
    case rest =>
      clear HB
      obtain ⟨N', R', rfl, rfl, HB⟩ := hcut
      go_wp2_with (first | (go_at_call 11; (with_reducible refine (of_v _ _ _).mono ?_); rintro e w' ⟨rfl, rfl⟩) | (go_at_call 20; (with_reducible refine (rof_v _ _ _).mono ?_); rintro e w' ⟨rfl, rfl⟩) | (go_at_call 12; (with_reducible refine (floor_v _ _ _).mono ?_); rintro e w' ⟨rfl, rfl⟩) | (go_at_call 21; (with_reducible refine (rfloor_v _ _ _).mono ?_); rintro e w' ⟨rfl, rfl⟩) | (go_at_call 13; (with_reducible refine (money_v _ _).mono ?_); rintro e w' ⟨rfl, rfl⟩) | (go_at_call 22; (with_reducible refine (rmoney_v _ _).mono ?_); rintro e w' ⟨rfl, rfl⟩) | (go_at_call 14; (with_reducible refine (right_v _ _).mono ?_); rintro e w' ⟨rfl, rfl⟩) | (go_at_call 23; (with_reducible refine (rright_v _ _).mono ?_); rintro e w' ⟨rfl, rfl⟩))
      refine (CC.out _ HB.out).mono ?_; rintro e w1 ⟨v, rfl, hown, hg⟩
      have hB1 : Hid (Below w.heap.size w w1) := Lib.hid (HB.out.grown hg HB.out.size (by simp))
      have hsz : w.heap.size ≤ wc.heap.size := HB.out.size
      clear hg CC HB
      by_cases h0 : n = 0
      · obtain ⟨A, c, rfl, hnc, hcm, _⟩ := own_form hown
        obtain rfl := h0
        clear hown HLEN
        go_wp2_with fail
        refine wp_loop_rounds 1 ?_; rw [rounds_succ]
        go_wp2_with fail
        refine (sum_none A c _).mono ?_; rintro e w2 ⟨rfl, hb2⟩
        have hB2 := Lib.hid (hB1.out.trans (hb2.mono hB1.out.size))
        clear hB1 hb2
        go_wp2_with (first | (go_at_call 26; (with_reducible refine (rsum_none _ _ _).mono ?_); rintro e w' ⟨rfl, rfl⟩) | (go_at_call 16; (with_reducible refine (least_none _ _ _).mono ?_); rintro e w' ⟨rfl, rfl⟩))
        refine wp_loop_rounds 1 ?_; rw [rounds_succ]
        go_wp2_with fail
        refine wp_loop_rounds 1 ?_; rw [rounds_succ]
        go_wp2_with (go_at_call 15; (with_reducible refine (wakes_any _).mono ?_); rintro e w' ⟨rfl, rfl⟩)
        go_ret
        exact ⟨rfl, hB2.out⟩
      · obtain ⟨gB, c, rfl, hnc, hcm⟩ := own_some hown (by omega)
        obtain ⟨hbase0, R0⟩ := Row.of_own hown
        have hbase : w.heap.size ≤ gB := by omega
        have hF0 : Hid (Some w gB n w1) := Lib.hid ⟨hB1.out, _, R0⟩
        clear hown R0 hB1 hbase0 HLEN
        have hm0 : ((n : Int) == 0) = false := by simp; omega
        have hp : 0 < n := by omega
        go_wp2_with fail
        go_loopw [107] (fun i wr => ∃ k : Nat, k ≤ n ∧ i = .int .i64 k ∧ Some w gB n wr) (fun i _ => n - (intOf i).toNat)
        case atStart => exact ⟨0, Nat.zero_le _, rfl, hF0.out⟩
        case round =>
          obtain ⟨k, hk, rfl, hf⟩ := hrel
          have HF := Lib.hid hf; clear hf
          by_cases hlt : k < n
          · obtain ⟨f0, f1⟩ := HF.out.2.choose_spec.2 k hlt
            obtain ⟨x, hx⟩ : ∃ x, HF.out.2.choose k = x := ⟨_, rfl⟩
            rw [hx] at f0
            clear hx
            go_wp2_with (go_at_call 18; (with_reducible refine (amount_some _ _).mono ?_); rintro e w' ⟨y, rfl, rfl⟩)
            go_roundw
            case rel => exact ⟨k + 1, by omega, by go_num, HF.out.next hlt hbase y⟩
            case measure => simp [intOf]; omega
          · obtain rfl : k = n := by omega
            clear hlt hk hF0
            obtain ⟨hb1, h, hr⟩ := HF.out
            have hB1 := Lib.hid hb1
            have R1 := Lib.hid hr
            clear HF hb1 hr
            obtain ⟨r, ok, hs⟩ := SumIs.is h k
            have HS := Lib.hid hs
            obtain ⟨L, hL⟩ : ∃ L, lst h (k - 1) = L := ⟨_, rfl⟩
            have HLE : Hid (∀ j, j < k → L ≤ h j) := Lib.hid fun j hj => by rw [← hL]; exact lst_le h (k - 1) j (by omega)
            have HIN : Hid (seen h L k = true) := Lib.hid (by obtain ⟨j, hj, e⟩ := lst_in h (k - 1); exact seen_of h L k j (by omega) (by rw [e, hL]))
            have HL := Lib.hid hL
            clear hs hL
            go_wp2_with fail
            refine (sum_some gB 0 k c h r ok _ R1.out.1 R1.out.hid (by omega) hnc HS).mono ?_; rintro e w2 ⟨rfl, hb2⟩
            have R2 := Lib.hid (R1.out.below hb2)
            have hB2 := Lib.hid (hB1.out.trans (hb2.mono hB1.out.size))
            clear R1 hB1 hb2
            have cl : Calls Try.prog 16 #[.slice (some ⟨gB, 0, none⟩) k c] w2 fun e w' => e = .returned (.tuple #[.int .i64 L, .bool true]) ∧ w2 = w' := by
              have := least_fn gB 0 k c h w2 R2.out.hid hp hnc hcm; rwa [HL.out] at this
            have CL := Lib.hid cl
            clear cl
            go_wp2_with (first | (go_at_call 26; (with_reducible refine (rsum_some _ _ _ _ h r ok _ R2.out.hid (by omega) hnc HS).mono ?_); rintro e w' ⟨rfl, rfl⟩) | (go_at_call 16; (with_reducible refine (CL.out).mono ?_); rintro e w' ⟨rfl, rfl⟩))
            clear CL HL HS
            go_loop [136] (fun i => ∃ m : Nat, m ≤ k ∧ i = .int .i64 m) (fun i => k - (intOf i).toNat)
            case atStart => exact ⟨0, Nat.zero_le _, rfl⟩
            case round =>
              obtain ⟨m, hm, rfl⟩ := hrel
              by_cases hlt : m < k
              · have cm := (R2.out.2 m hlt).1
                have hle := HLE.out m hlt
                go_wp2_with fail
                go_round
                case rel => exact ⟨m + 1, by omega, by go_num⟩
                case measure => simp [intOf]; omega
              · obtain rfl : m = k := by omega
                clear hlt hm
                go_wp2_with fail
                go_loop [27, 149] (fun t i => ∃ k : Nat, k ≤ m ∧ i = .int .i64 k ∧ t = .bool (seen h L k)) (fun _ i => m - (intOf i).toNat)
                case atStart => exact ⟨0, Nat.zero_le _, rfl, rfl⟩
                case round =>
                  obtain ⟨k, hk, rfl, rfl⟩ := hrel
                  by_cases hlt : k < m
                  · have cm := (R2.out.2 k hlt).1
                    have hss : seen h L (k + 1) = (seen h L k || (h k == L)) := rfl
                    have HSS := Lib.hid hss
                    clear hss
                    obtain ⟨b, hb⟩ : ∃ b, seen h L k = b := ⟨_, rfl⟩
                    rw [hb] at HSS ⊢
                    clear hb
                    cases b
                    all_goals
                      go_wp2_with fail
                      go_round
                      case rel => exact ⟨k + 1, by omega, by go_num, by rw [HSS.out]; simp⟩
                      case measure => simp [intOf]; omega
                  · obtain rfl : k = m := by omega
                    clear hlt hk
                    rw [HIN.out]
                    go_wp2_with (go_at_call 15; (with_reducible refine (wakes_any _).mono ?_); rintro e w' ⟨rfl, rfl⟩)
                    go_ret
                    exact ⟨rfl, hB2.out⟩
end Go.Proofs.Ytbealifdnllimaa
