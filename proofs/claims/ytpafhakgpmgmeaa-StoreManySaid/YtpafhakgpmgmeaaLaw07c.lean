/- StoreMany: its walk. -/
import Derived.Test.YtpafhakgpmgmeaaLaw07b
import Derived.WalkKit
import Derived.WalkSpells
import Derived.WalkLawsBesides
import Derived.Lib.Hide
import Derived.Deep.LoopGhost
import Derived.IntWalk
namespace Go.Proofs.Ytpafhakgpmgmeaa
open Go.RowKit

/-- the journals that are posted -/
def mj (N : Int) (k : Nat) : Jn := ⟨(k : Int) + 1, ⟨#[97]⟩, ((k % 8 : Nat) : Int), 1, 0, 2, two 1 (2 + ((k % 6 : Nat) : Int)), two N (-N)⟩
theorem mj_push (N : Int) (i : Nat) : pushJ (mj N) i (mj N i) = mj N := funext fun j => by
  unfold pushJ; split
  · rename_i h; rw [h]
  · rfl
theorem mj_jb (N : Int) (j : Nat) (a u : Int) : jb (mj N j) ⟨#[97]⟩ a u = if ((j % 8 : Nat) : Int) ≤ u then (if (1 : Int) = a then N else 0) + (if 2 + ((j % 6 : Nat) : Int) = a then -N else 0) else 0 := by
  show (if (⟨#[97]⟩ : ByteArray) = ⟨#[97]⟩ ∧ ((j % 8 : Nat) : Int) ≤ u then sm a (two 1 (2 + ((j % 6 : Nat) : Int))) (two N (-N)) 2 else 0) = _
  rw [sm_two]
  by_cases h : ((j % 8 : Nat) : Int) ≤ u
  · rw [if_pos ⟨rfl, h⟩, if_pos h]
  · rw [if_neg (fun q => h q.2), if_neg h]
theorem mj_mon {N : Int} (h1 : 1 ≤ N) (h2 : N ≤ 1000) (k : Nat) (hk : k ≤ 200) (a u : Int) : -200000 ≤ bal (mj N) k ⟨#[97]⟩ a u ∧ bal (mj N) k ⟨#[97]⟩ a u ≤ 200000 := by
  have := tot_abs (g := fun j => jb (mj N j) ⟨#[97]⟩ a u) (B := 1000) (by omega) k fun j _ => by
    show -1000 ≤ jb (mj N j) ⟨#[97]⟩ a u ∧ jb (mj N j) ⟨#[97]⟩ a u ≤ 1000
    rw [mj_jb]
    split
    · split <;> split <;> omega
    · omega
  unfold bal; omega
theorem mj_one (N : Int) : bal (mj N) 200 ⟨#[97]⟩ 1 7 = N * 200 := by
  unfold bal
  rw [tot_ext 200 (h := fun _ => N) fun j _ => by rw [mj_jb, if_pos (by omega), if_pos rfl, if_neg (by omega)]; omega]
  exact tot_const N 200
theorem tot_ind (N : Int) (f : Nat → Bool) (n : Nat) (c : Int) (h : tot (fun j => if f j then 1 else 0) n = c) : tot (fun j => if f j then N else 0) n = N * c := by
  rw [← h, ← tot_mul]
  exact tot_ext n fun j _ => by split <;> simp
theorem mj_half (N : Int) : bal (mj N) 200 ⟨#[97]⟩ 1 3 = N * 100 := by
  unfold bal
  rw [tot_ext 200 (h := fun j => if decide (j % 8 ≤ 3) then N else 0) fun j _ => by
    rw [mj_jb]
    by_cases h : j % 8 ≤ 3
    · rw [if_pos (by omega), if_pos rfl, if_neg (by omega), if_pos (by simpa using h)]; omega
    · rw [if_neg (by omega), if_neg (by simpa using h)]]
  exact tot_ind N _ 200 100 (by decide +kernel)
theorem mj_other (N : Int) (a : Nat) (ha : 2 ≤ a) (c : Int) (hc : tot (fun j => if decide (2 + j % 6 = a) then 1 else 0) 200 = c) : bal (mj N) 200 ⟨#[97]⟩ a 7 = -N * c := by
  unfold bal
  rw [tot_ext 200 (h := fun j => if decide (2 + j % 6 = a) then -N else 0) fun j _ => by
    rw [mj_jb, if_pos (by omega), if_neg (by omega)]
    by_cases h : 2 + j % 6 = a
    · rw [if_pos (by omega), if_pos (by simpa using h)]; omega
    · rw [if_neg (by omega), if_neg (by simpa using h)]; rfl]
  exact tot_ind (-N) _ 200 c hc
theorem mj_seven {N : Int} (h1 : 1 ≤ N) : mc (fun a => bal (mj N) 200 ⟨#[97]⟩ a 7) 7 = 7 := by
  have e1 := mj_one N
  have e2 := mj_other N 2 (by omega) 34 (by decide +kernel)
  have e3 := mj_other N 3 (by omega) 34 (by decide +kernel)
  have e4 := mj_other N 4 (by omega) 33 (by decide +kernel)
  have e5 := mj_other N 5 (by omega) 33 (by decide +kernel)
  have e6 := mj_other N 6 (by omega) 33 (by decide +kernel)
  have e7 := mj_other N 7 (by omega) 33 (by decide +kernel)
  have nz : ∀ k : Nat, k < 7 → bal (mj N) 200 ⟨#[97]⟩ ((k : Int) + 1) 7 ≠ 0 := fun k hk => by
    rcases (show k = 0 ∨ k = 1 ∨ k = 2 ∨ k = 3 ∨ k = 4 ∨ k = 5 ∨ k = 6 by omega) with rfl | rfl | rfl | rfl | rfl | rfl | rfl
    · intro h; have h' : bal (mj N) 200 ⟨#[97]⟩ 1 7 = 0 := h; omega
    · intro h; have h' : bal (mj N) 200 ⟨#[97]⟩ ((2 : Nat) : Int) 7 = 0 := h; omega
    · intro h; have h' : bal (mj N) 200 ⟨#[97]⟩ ((3 : Nat) : Int) 7 = 0 := h; omega
    · intro h; have h' : bal (mj N) 200 ⟨#[97]⟩ ((4 : Nat) : Int) 7 = 0 := h; omega
    · intro h; have h' : bal (mj N) 200 ⟨#[97]⟩ ((5 : Nat) : Int) 7 = 0 := h; omega
    · intro h; have h' : bal (mj N) 200 ⟨#[97]⟩ ((6 : Nat) : Int) 7 = 0 := h; omega
    · intro h; have h' : bal (mj N) 200 ⟨#[97]⟩ ((7 : Nat) : Int) 7 = 0 := h; omega
  have go : ∀ k : Nat, k ≤ 7 → mc (fun a => bal (mj N) 200 ⟨#[97]⟩ a 7) k = k := fun k => by
    induction k with
    | zero => intro _; rfl
    | succ k ih => intro h; rw [(mc_some (S := fun a => bal (mj N) 200 ⟨#[97]⟩ a 7) (nz k (by omega))).1, ih (by omega)]
  exact go 7 (by omega)
theorem mj_b (N : Int) (a : Int) : bal (mj N) 200 ⟨#[98]⟩ a 7 = (fun _ => 0) a := tot_zero 200 fun j _ => by
  unfold jb; exact if_neg fun h => absurd h.1 (by show (⟨#[97]⟩ : ByteArray) ≠ ⟨#[98]⟩; decide)
theorem mj_ok {N : Int} (h1 : 1 ≤ N) (h2 : N ≤ 1000) (k : Nat) (hk : k < 200) : PErr (mj N) k ⟨#[97]⟩ ((k % 8 : Nat) : Int) 1 0 2 (two 1 (2 + ((k % 6 : Nat) : Int))) (two N (-N)) 0 :=
  perr_prov (by decide) (by omega) (by omega) (good_two (by omega) (by omega) (by omega) (by omega) ⟨by omega, by omega⟩ (by omega)) hk (two_cases (by
    have := mj_mon h1 h2 k (by omega) 1 399
    show Mon (bal (mj N) k ⟨#[97]⟩ 1 399 + N); unfold Mon; omega) (by
    have := mj_mon h1 h2 k (by omega) (2 + ((k % 6 : Nat) : Int)) 399
    show Mon (bal (mj N) k ⟨#[97]⟩ (2 + ((k % 6 : Nat) : Int)) 399 + -N); unfold Mon; omega))
theorem mj_lim1 (N : Int) : PErr (mj N) 200 ⟨#[97]⟩ 0 1 0 0 (fun _ => 0) (fun _ => 0) 5 :=
  .limit1 ⟨by decide, by omega, by omega, .inr ⟨rfl, rfl⟩⟩ rfl ⟨by omega, fun j hj => by omega, fun j hj => by omega, rfl⟩ rfl
theorem mj_lim2 {N : Int} (h1 : 1 ≤ N) (h2 : N ≤ 1000) : PErr (mj N) 200 ⟨#[97]⟩ 0 2 1 2 (two 1 2) (two (-N) N) 5 :=
  .limit2 0 ⟨by decide, by omega, by omega, .inl rfl⟩ rfl (by decide) ⟨by omega, rfl, rfl, by show (1 : Int) ≠ 2; omega⟩ (fun ⟨j, _, e⟩ => by
    have e2 : (0 : Int) = 1 := e
    omega) (good_two (by omega) (by omega) (by omega) (by omega) ⟨by omega, by omega⟩ (by omega)) ⟨rfl, two_cases ⟨rfl, rfl⟩ ⟨rfl, by show N = - -N; omega⟩⟩ rfl
set_option maxHeartbeats 4000000 in
set_option maxRecDepth 100000 in
theorem storeMany_walk (a0 : Int) (w : World) :
    Calls Try.prog 4 #[.int .i64 a0] w fun e w' => e = .returned (.bool true) ∧ Below w.heap.size w w' := by
  go_enter Try.func4, Try.ntmps4
  go_wp2_with fail
  refine (new_any _).mono ?_
  rintro e w1 ⟨rfl, rfl⟩
  go_wp2_with fail
  refine (within_some _ _ _ (by omega) (by omega)).mono ?_
  rintro e w' ⟨x, x1, x2, rfl, rfl⟩
  obtain ⟨N, hN⟩ : ∃ N, 1 + x = N := ⟨_, rfl⟩
  have n1 : 1 ≤ N := by omega
  have n2 : N ≤ 1000 := by omega
  obtain ⟨O1, nw, _⟩ := now_new w w (fun _ => 0) (Fin0.zero _ _) (Below.refl _ _) 1 60 (mj N)
  have N1 := Lib.hid nw
  obtain ⟨w2, hw2⟩ : ∃ w2, w.alloc (.cells #[.slice none 0 0] 60) = w2 := ⟨_, rfl⟩
  rw [hw2] at N1
  rw [hw2]
  clear nw hw2
  go_wp2_with fail

  clear hN x1 x2
  go_loopg [4] 200 (fun gh i wr => ∃ (k : Nat) (O : Nat → Nat), k ≤ 200 ∧ gh = 200 - k ∧ i = .int .i64 k ∧ Now w wr O 1 w.heap.size k (mj N))
  case atStart => exact ⟨0, O1, Nat.zero_le _, rfl, rfl, N1.out⟩
  case round =>
    obtain ⟨k, O, hk, hgk, rfl, hnow⟩ := hrel
    have HGK := Lib.hid hgk
    have NR := Lib.hid hnow
    clear hgk hnow
    by_cases hlt : k < 200
    · have t8 : ((k : Int)).tmod 8 = ((k % 8 : Nat) : Int) := by rw [Int.tmod_eq_emod_of_nonneg (by omega)]; omega
      have t6 : ((k : Int)).tmod 6 = ((k % 6 : Nat) : Int) := by rw [Int.tmod_eq_emod_of_nonneg (by omega)]; omega
      have hm8 : ((k % 8 : Nat) : Int) < 8 := by omega
      have hm6 : ((k % 6 : Nat) : Int) < 6 := by omega
      have PK := Lib.hid (mj_ok n1 n2 k hlt)
      have MP := Lib.hid (mj_push N k)
      obtain ⟨q8, hq8⟩ : ∃ q : Int, ((k % 8 : Nat) : Int) = q := ⟨_, rfl⟩
      obtain ⟨q6, hq6⟩ : ∃ q : Int, ((k % 6 : Nat) : Int) = q := ⟨_, rfl⟩
      have hq60 : 0 ≤ q6 := by omega
      rw [hq8] at t8 hm8
      rw [hq6] at t6 hm6
      have ME : Hid (mj N k = ⟨(k : Int) + 1, ⟨#[97]⟩, q8, 1, 0, 2, two 1 (2 + q6), two N (-N)⟩) := Lib.hid (by unfold mj; rw [hq8, hq6])
      rw [hq8, hq6] at PK
      clear hq8 hq6
      go_wp2_with fail
      have LL := lit_some wr #[.int .i64 1, .int .i64 N, .int .i64 (2 + q6), .int .i64 (-N)] 26 wr.heap.size 2 (two 1 (2 + q6)) (two N (-N)) rfl rfl (by unfold maxLen; omega)
      have hb7 := (Below.refl wr.heap.size wr).alloc (Nat.le_refl _) (.cells #[.int .i64 1, .int .i64 N, .int .i64 (2 + q6), .int .i64 (-N)] 26)
      refine (lpost_ok (NR.out.below hb7) (by decide) ⟨#[97]⟩ q8 1 0 2 (two 1 (2 + q6)) (two N (-N)) _ LL PK.out).mono ?_
      rintro r w5 ⟨rfl, O5, n5, _⟩
      rw [← ME.out, MP.out] at n5
      have N5 := Lib.hid n5
      clear n5 LL hb7
      go_wp2
      go_roundg (200 - (k + 1))
      case measure => have := HGK.out; omega
      case rel => exact ⟨k + 1, O5, by omega, rfl, by go_num, N5.out⟩
    · obtain rfl : k = 200 := by omega
      clear hlt hk
      have L1 := Lib.hid (mj_lim1 N)
      have L2 := Lib.hid (mj_lim2 n1 n2)
      have M7 := Lib.hid (mj_one N)
      have M3 := Lib.hid (mj_half N)
      have MS := Lib.hid (mj_seven n1)
      have MB := Lib.hid (mj_b N)
      have e1 : (N * 200).tdiv 2 = N * 100 := by rw [Int.tdiv_eq_ediv_of_nonneg (by omega)]; omega
      go_wp2_with fail
      refine (lpost_no NR.out ⟨#[97]⟩ 0 1 0 0 (fun _ => 0) (fun _ => 0) (.slice none 0 0) 5 ⟨none, 0, rfl, Nat.le_refl _, Nat.zero_le _, fun _ => ⟨rfl, rfl⟩, .inl rfl⟩ (by omega) L1.out (by omega)).mono ?_
      rintro r w5 ⟨rfl, hb5⟩
      have N5 := Lib.hid (NR.out.below hb5)
      clear hb5
      go_wp2_with fail
      have LL := lit_some w5 #[.int .i64 1, .int .i64 (-N), .int .i64 2, .int .i64 N] 26 w5.heap.size 2 (two 1 2) (two (-N) N) rfl rfl (by unfold maxLen; omega)
      have hb7 := (Below.refl w5.heap.size w5).alloc (Nat.le_refl _) (.cells #[.int .i64 1, .int .i64 (-N), .int .i64 2, .int .i64 N] 26)
      refine (lpost_no (N5.out.below hb7) ⟨#[97]⟩ 0 2 1 2 (two 1 2) (two (-N) N) _ 5 LL (by omega) L2.out (by omega)).mono ?_
      rintro r w6 ⟨rfl, hb6⟩
      have N6 := Lib.hid ((N5.out.below hb7).below hb6)
      clear hb6 hb7 LL
      go_wp2_with fail
      refine (lbal N6.out ⟨#[97]⟩ 1 7 _ M7.out).mono ?_
      rintro r w7 ⟨rfl, hb7⟩
      have N7 := Lib.hid (N6.out.below hb7)
      clear hb7
      go_wp2_with fail
      refine (lbal N7.out ⟨#[97]⟩ 1 3 _ M3.out).mono ?_
      rintro r w8 ⟨rfl, hb8⟩
      have N8 := Lib.hid (N7.out.below hb8)
      clear hb8
      go_wp2_with fail
      refine (ltrial N8.out ⟨#[97]⟩ 7 _ (fun _ => rfl)).mono ?_
      rintro r w9 ⟨v9, rfl, ho9, hb9⟩
      rw [MS.out] at ho9
      obtain ⟨A9, c9, rfl, _⟩ := ho9.form
      have N9 := Lib.hid (N8.out.below hb9)
      clear hb9 ho9
      go_wp2_with fail
      refine (ltrial N9.out ⟨#[98]⟩ 7 _ MB.out).mono ?_
      rintro r wa ⟨va, rfl, hoa, hba⟩
      rw [mc_none] at hoa
      obtain ⟨Aa, ca, rfl, _⟩ := hoa.form
      have Na := Lib.hid (N9.out.below hba)
      clear hba hoa
      go_wp2_with fail
      refine (wakes7_any _).mono ?_
      rintro r wb ⟨rfl, hbb⟩
      have H10 := Lib.hid (Na.out.low.trans (hbb.mono Na.out.low.size))
      clear hbb
      go_wp2
      go_ret
      exact ⟨rfl, H10.out⟩
end Go.Proofs.Ytpafhakgpmgmeaa
