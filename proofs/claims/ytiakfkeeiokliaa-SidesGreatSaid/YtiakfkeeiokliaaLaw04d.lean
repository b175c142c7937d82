/- SidesGreat: its walk. -/
import Derived.Test.YtiakfkeeiokliaaSides
import Derived.Test.YtiakfkeeiokliaaPlay
import Derived.WalkKit
import Derived.WalkSpells
import Derived.WalkLawsBesides
import Derived.Lib.Hide
import Derived.Deep.LoopGhost
namespace Go.Proofs.Ytiakfkeeiokliaa
open Go.RowKit
attribute [local go_sem] run_store_complex

/-- the greatest amounts of SidesGreat -/
def gGreat : Nat → Int := fun j => 100000000000 - (j : Int) % 7
theorem gGreat_bd (j : Nat) : 99999999994 ≤ gGreat j ∧ gGreat j ≤ 100000000000 := by unfold gGreat; omega

set_option maxHeartbeats 4000000 in
set_option maxRecDepth 100000 in
theorem sidesGreat_walk (a0 a1 : Int) (w : World) (_w0 : (Lit.int .i64 a0).wf = true) (_w1 : (Lit.int .i64 a1).wf = true) :
    Calls Try.prog 3 #[.int .i64 a0, .int .i64 a1] w fun e w' => e = .returned (.bool true) ∧ Below w.heap.size w w' := by
  clear _w0 _w1
  obtain ⟨n, hn⟩ : ∃ n : Nat, a0 % 4000 = n := ⟨(a0 % 4000).toNat, by omega⟩
  have n2 : n ≤ 3999 := by omega
  have HN := Lib.hid hn
  obtain ⟨M, hM⟩ : ∃ M, a1 % 1000 = M := ⟨_, rfl⟩
  have m1 : 0 ≤ M := by omega
  have m2 : M ≤ 999 := by omega
  have HM := Lib.hid hM
  clear hn hM
  obtain ⟨i0, hi, hz0, hz1, hz2⟩ := info_parts cpl_info
  have sc := fun w => sof_in (-M) w ⟨by omega, by omega⟩
  have e1 : dbt (-M) = 0 := if_neg (by omega)
  have e2 : cdt (-M) = M := by rw [cdt, if_neg (by omega)]; omega
  simp only [e1, e2] at sc
  have SCM := Lib.hid sc
  clear sc e1 e2
  go_enter Try.func3, Try.ntmps3
  go_wp2_with (first | (go_at_call 7; (with_reducible refine (within_at _ _ _ _ (by omega) (by omega) HN).mono ?_); rintro e w' ⟨rfl, rfl⟩) | (go_at_call 7; (with_reducible refine (within_at _ _ _ _ (by omega) (by omega) HM).mono ?_); rintro e w' ⟨rfl, rfl⟩))
  go_loopg [5, 6] n (fun gh v i wr => ∃ k : Nat, k ≤ n ∧ gh = n - k ∧ i = .int .i64 k ∧ (∃ A c, v = .slice A k c) ∧ OwnV wr 24 w.heap.size v k (fun j => cx (gGreat j) 0) ∧ Below w.heap.size w wr)
  case atStart => exact ⟨0, Nat.zero_le _, rfl, rfl, ⟨_, _, rfl⟩, OwnV.nil _ _ _ _, Below.refl _ _⟩
  case round =>
    obtain ⟨k, hk, hgk, rfl, ⟨A, c, rfl⟩, ho, hbw⟩ := hrel
    have HGK := Lib.hid hgk
    have HO := Lib.hid ho
    have HB := Lib.hid hbw
    have bs := hbw.size
    clear hgk ho hbw
    by_cases hlt : k < n
    · have gb := gGreat_bd k
      obtain ⟨x, hx⟩ : ∃ x, gGreat k = x := ⟨_, rfl⟩
      rw [hx] at gb
      have HX := Lib.hid hx
      have hx' : 100000000000 - (k : Int) % 7 = x := by rw [← hx]; rfl
      clear hx
      have sc := fun w => sof_in x w ⟨by omega, by omega⟩
      have e1 : dbt x = x := if_pos (by omega)
      have e2 : cdt x = 0 := if_pos (by omega)
      simp only [e1, e2] at sc
      rw [← hx'] at sc
      have SC := Lib.hid sc
      have HX' := Lib.hid hx'
      clear sc e1 e2 hx'
      go_wp2_with (first | (go_at_call 8; (with_reducible refine (SC.out _).mono ?_); rintro e w' ⟨rfl, rfl⟩) | (at_builtin; (refine wpList_push_v rfl (.tmp 21) (.tmp 26) rfl Try.underlying23 hi hz0 hz1 hz2 (by omega) rfl w w.heap.size k _ (.slice A k c) _ (cx (100000000000 - (k : Int) % 7) 0) rfl rfl (by simp) rfl (HO.out.alloc _) (by omega) (HB.out.alloc bs _) (by simp; omega) _ rfl ?_; intro b1 c1 w' ho' hb' hg' hat'; have HO' := Lib.hid ho'; clear ho' hg' hat')))
      go_roundg (n - (k + 1))
      case measure => have := HGK.out; omega
      case rel =>
        refine ⟨k + 1, by omega, rfl, by go_num, ⟨_, _, rfl⟩, HO'.out.ext fun j hj => ?_, hb'⟩
        by_cases e : j = k
        · subst e; rw [if_pos rfl, HX'.out, HX.out]
        · rw [if_neg e]
    · obtain rfl : k = n := by omega
      clear hlt HGK
      go_wp2_with (first | (go_at_call 8; (with_reducible refine (SCM.out _).mono ?_); rintro e w' ⟨rfl, rfl⟩) | (at_builtin; (refine wpList_push_v rfl (.tmp 28) (.tmp 32) rfl Try.underlying23 hi hz0 hz1 hz2 (by omega) rfl w w.heap.size k _ (.slice A k c) _ (cx 0 M) rfl rfl (by simp) rfl (HO.out.alloc _) (by omega) (HB.out.alloc bs _) (by simp; omega) _ rfl ?_; intro b1 c1 w' ho' hb' hg' hat'; have HO' := Lib.hid ho'; clear ho' hg' hat')))
      have HB' := Lib.hid hb'
      clear hb' HO HB
      go_loopg [7, 8] k (fun gh t i wq => ∃ j : Nat, j ≤ k ∧ gh = k - j ∧ i = .int .i64 j ∧ t = .int .i64 (tot gGreat j) ∧ wq = w')
      case atStart => exact ⟨0, Nat.zero_le _, rfl, rfl, rfl, rfl⟩
      case round =>
        obtain ⟨j, hj, hgj, rfl, rfl, rfl⟩ := hrel
        have HGJ := Lib.hid hgj
        clear hgj
        have tb := tot_bd gGreat j fun i _ => by have := gGreat_bd i; unfold Mon; omega
        by_cases hlt : j < k
        · obtain ⟨T, hT⟩ : ∃ T, tot gGreat j = T := ⟨_, rfl⟩
          rw [hT] at tb
          rw [hT]
          have HT := Lib.hid hT
          clear hT
          obtain ⟨t1, t2⟩ := tb
          go_wp2
          go_roundg (k - (j + 1))
          case measure => have := HGJ.out; omega
          case rel => exact ⟨j + 1, by omega, rfl, by go_num, congrArg (Value.int .i64) (by rw [tot, HT.out]; rfl), rfl⟩
        · obtain rfl : j = k := by omega
          obtain ⟨A3, c3, e3, oc, ocm, oat⟩ := HO'.out.at
          injection e3 with e3 _ e3'
          subst e3; subst e3'
          have hp : ∀ i, i < j + 1 → 0 ≤ (if i = j then 0 else gGreat i) ∧ 0 ≤ (if i = j then M else 0) := fun i _ => by have := gGreat_bd i; split <;> omega
          have E1 : tot (fun i => if i = j then 0 else gGreat i) (j + 1) = tot gGreat j := by rw [tot_push]; omega
          have E2 : tot (fun i => if i = j then M else 0) (j + 1) = M := by rw [tot_push, tot_const]; omega
          have sc := ssum_any _ (j + 1) _ (fun i => if i = j then 0 else gGreat i) (fun i => if i = j then M else 0) _ (oat.ext fun i _ => push_cx gGreat (fun _ => 0) j 0 M i) oc ocm (Lib.hid hp) (by rw [E1]; omega) (by rw [E2]; omega)
          rw [E1, E2] at sc
          have SC := Lib.hid sc
          clear sc E1 E2 hp oat HO'
          unfold maxLen at ocm
          have t0 : 0 ≤ tot gGreat j := (sums_up (gd := gGreat) (gc := fun _ => 0) (n := j) (fun i _ => ⟨by have := gGreat_bd i; omega, Int.le_refl _⟩) j (Nat.le_refl _)).1
          generalize tot gGreat j = T at *
          obtain ⟨t1, t2⟩ := tb
          go_wp2_with (first | (go_at_call 9; (with_reducible refine (SC.out).mono ?_); rintro e w' ⟨rfl, rfl⟩) | (go_at_call 10; (with_reducible refine (both_any T M _ (by omega) (by omega) (by omega) (by omega)).mono ?_); rintro e w' ⟨rfl, rfl⟩) | (go_at_call 11; (with_reducible refine (net_any T M _ (by omega) (by omega) (by omega) (by omega)).mono ?_); rintro e w' ⟨rfl, rfl⟩) | (go_at_call 12; (with_reducible refine (wakes4_any _).mono ?_); rintro e w' ⟨rfl, rfl⟩))
          go_ret
          exact ⟨rfl, HB'.out⟩
end Go.Proofs.Ytiakfkeeiokliaa
