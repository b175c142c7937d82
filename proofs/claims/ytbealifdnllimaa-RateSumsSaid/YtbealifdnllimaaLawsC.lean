/- RateSums: its walk. -/
import Derived.Test.YtbealifdnllimaaRowMem
import Derived.WalkKit
import Derived.WalkSpells
import Derived.WalkLawsBesides
import Derived.Lib.Hide
namespace Go.Proofs.Ytbealifdnllimaa
open Go.RowKit

/-- a number made an amount -/
def amt (x : Int) : Int := x % 200000000001 - 100000000000
theorem amt_bd (x : Int) : -100000000000 ≤ amt x ∧ amt x ≤ 100000000000 := by unfold amt; omega
/-- the first k numbers of the row are made amounts -/
def Fill (w : World) (b n : Nat) (g : Nat → Int) (k : Nat) (wr : World) : Prop :=
  Below w.heap.size w wr ∧ Row wr b n (fun j => if j < k then amt (g j) else g j)
theorem Fill.next {w wr : World} {b n k : Nat} {g : Nat → Int} (f : Fill w b n g k wr) (hk : k < n) (hb : w.heap.size ≤ b) : Fill w b n g (k + 1) (wr.setCell ⟨b, k, none⟩ (.int .i64 (amt (g k)))) := by
  refine ⟨f.1.setCell hb _, (f.2.set hk (amt (g k))).ext fun j _ => ?_⟩
  by_cases e : j = k
  · subst e; simp
  · simp only [if_neg e]
    by_cases h : j < k
    · rw [if_pos h, if_pos (by omega)]
    · rw [if_neg h, if_neg (by omega)]
theorem Fill.cell {w wr : World} {b n k : Nat} {g : Nat → Int} (f : Fill w b n g k wr) (hk : k < n) : wr.cell? ⟨b, k, none⟩ = some (.int .i64 (g k)) ∧ wr.frozen? ⟨b, k, none⟩ = false := by
  have := f.2.2 k hk
  simpa using this

/-- the first m numbers of k, from behind -/
def revs (h : Nat → Int) (k m : Nat) : List Int := (List.range m).map fun j => h (k - 1 - j)
theorem revs_len (h : Nat → Int) (k m : Nat) : (revs h k m).length = m := by simp [revs]
theorem revs_succ (h : Nat → Int) (k m : Nat) : revs h k (m + 1) = revs h k m ++ [h (k - 1 - m)] := by simp [revs, List.range_succ]
theorem revs_get (h : Nat → Int) (k m j : Nat) (hj : j < m) : (revs h k m).getD j 0 = h (k - 1 - j) := by simp [revs, List.getD, hj]
/-- at the head of a round: m numbers are in the new row; all that was there when the loop began is as it was -/
def Rev (w2 : World) (e : TypeId) (h : Nat → Int) (k m : Nat) (t : Value) (wr : World) : Prop :=
  wr.ownsRow w2.heap.size e 1 t m ((revs h k m).map (Value.int .i64)) ∧ Below w2.heap.size w2 wr

set_option maxHeartbeats 4000000 in
set_option maxRecDepth 100000 in
theorem rateSums_walk (a0 : Option Addr) (len0 cap0 : Nat) (z0 : List Int) (a1 : Int) (w : World) (w0 : IsRow .i64 w a0 len0 cap0 z0) (_w1 : (Lit.int .i64 a1).wf = true) :
    Calls Try.prog 9 #[.slice a0 len0 cap0, .int .i64 a1] w fun e w' => e = .returned (.bool true) ∧ Below w.heap.size w w' := by
  obtain ⟨hc, hl, hlc, hcm, hA, hwf⟩ := w0.cells
  clear hwf
  obtain ⟨zs, hzs⟩ : ∃ zs, zs = z0.take len0 := ⟨_, rfl⟩
  rw [← hzs] at hc hl
  clear hzs w0
  clear z0
  obtain ⟨i0, hi, hz0, hz1, hz2⟩ := info_parts int_info
  have HC := Lib.hid hc
  have HL := Lib.hid hl
  have HA := Lib.hid hA
  clear hc hl hA
  obtain ⟨n, hn⟩ : ∃ n, n = min len0 10 := ⟨_, rfl⟩
  have hn10 : n ≤ 10 := by omega
  have hlen : (zs.take 10).length = n := by have := HL.out; simp; omega
  have cc : ∀ w', w = w' → Calls Try.prog 24 #[.slice a0 len0 cap0, .int .i64 10] w' fun e w' => ∃ v, e = .returned v ∧ w'.ownsRow w.heap.size 3 1 v n ((zs.take 10).map (Value.int .i64)) ∧ w.grownBy w' none := by
    rintro w' rfl
    rw [hn]
    exact cut_ints a0 len0 cap0 _ 10 zs w HC.out HL.out hlc hcm (by omega) HA.out
  have CC := Lib.hid cc
  clear cc HC HL HA
  clear hn hlc hcm
  obtain ⟨ys, hys⟩ : ∃ ys, ys = zs.take 10 := ⟨_, rfl⟩
  rw [← hys] at hlen CC
  clear hys
  clear zs
  have HLEN := Lib.hid hlen; clear hlen
  go_enter Try.func9, Try.ntmps9
  go_wp2_with fail
  refine (CC.out _ rfl).mono ?_; rintro e w1 ⟨v, rfl, hown, hg⟩
  have hbw : Hid (Below w.heap.size w w1) := Lib.hid ((Below.refl _ w).grown hg (Nat.le_refl _) (by simp))
  clear hg CC
  by_cases h0 : n = 0
  · obtain ⟨A, c, rfl, hnc, hcm, _⟩ := own_form hown
    obtain rfl := h0
    clear hown HLEN
    go_wp2_with fail
    refine wp_loop_rounds 1 ?_; rw [rounds_succ]
    go_wp2_with fail
    refine (sum_none A c _).mono ?_; rintro e w2 ⟨rfl, hb2⟩
    have hB2 := Lib.hid (hbw.out.trans (hb2.mono hbw.out.size))
    clear hbw hb2
    go_wp2_with fail
    refine wp_loop_rounds 1 ?_; rw [rounds_succ]
    go_wp2_with fail
    refine (sum_none none 0 _).mono ?_; rintro e w4 ⟨rfl, hb4⟩
    have hB4 := Lib.hid (hB2.out.trans (hb4.mono hB2.out.size))
    clear hB2 hb4
    go_wp2_with fail
    have L5 := Lib.hid (lit_row w4 [100000000000, 100000000000, -100000000000] 3)
    have hB5 := Lib.hid (hB4.out.alloc hB4.out.size (.cells #[.int .i64 100000000000, .int .i64 100000000000, .int .i64 (-100000000000)] 3))
    clear hB4
    refine (sum_some w4.heap.size 0 3 3 _ 100000000000 true _ L5.out.1 L5.out.hid (by omega) (by omega) (Lib.hid sum_three)).mono ?_; rintro e w6 ⟨rfl, hb6⟩
    have hB6 := Lib.hid (hB5.out.trans (hb6.mono hB5.out.size))
    clear hB5 hb6 L5
    go_wp2_with fail
    have L7 := Lib.hid (lit_row w6 [100000000000, 1] 3)
    have hB7 := Lib.hid (hB6.out.alloc hB6.out.size (.cells #[.int .i64 100000000000, .int .i64 1] 3))
    clear hB6
    refine (sum_some w6.heap.size 0 2 2 _ 0 false _ L7.out.1 L7.out.hid (by omega) (by omega) (Lib.hid sum_two)).mono ?_; rintro e w8 ⟨rfl, hb8⟩
    have hB8 := Lib.hid (hB7.out.trans (hb8.mono hB7.out.size))
    clear hB7 hb8 L7
    go_wp2_with (go_at_call 15; (with_reducible refine (wakes_any _).mono ?_); rintro e w' ⟨rfl, rfl⟩)
    go_ret
    exact ⟨rfl, hB8.out⟩
  · obtain ⟨gB, c, rfl, hnc, hcm⟩ := own_some hown (by omega)
    obtain ⟨hbase, R0⟩ := Row.of_own hown
    have R0 := Lib.hid R0
    clear hown
    obtain ⟨g, hgg⟩ : ∃ g : Nat → Int, g = fun j => ys.getD j 0 := ⟨_, rfl⟩
    rw [← hgg] at R0
    clear HLEN hgg
    go_wp2_with fail
    go_loopw [23] (fun i wr => ∃ k : Nat, k ≤ n ∧ i = .int .i64 k ∧ Fill w gB n g k wr) (fun i _ => n - (intOf i).toNat)
    case atStart => exact ⟨0, Nat.zero_le _, rfl, hbw.out, R0.out.ext fun j _ => by simp⟩
    case round =>
      obtain ⟨k, hk, rfl, hf⟩ := hrel
      have HF := Lib.hid hf; clear hf
      by_cases hlt : k < n
      · obtain ⟨f0, f1⟩ := HF.out.cell hlt
        obtain ⟨x, hx⟩ : ∃ x, g k % 200000000001 = x := ⟨_, rfl⟩
        have x1 : 0 ≤ x := by omega
        have x2 : x ≤ 200000000000 := by omega
        have HX := Lib.hid hx
        have HE : Hid (x - 100000000000 = amt (g k)) := Lib.hid (by unfold amt; omega)
        clear hx
        go_wp2_with (go_at_call 10; (with_reducible refine (within_at _ _ _ _ (by omega) (by omega) HX).mono ?_); rintro e w' ⟨rfl, rfl⟩)
        go_roundw
        case rel => exact ⟨k + 1, by omega, by go_num, by rw [HE.out]; exact HF.out.next hlt hbase⟩
        case measure => simp [intOf]; omega
      · obtain rfl : k = n := by omega
        clear hlt hk
        have hB1 := Lib.hid HF.out.1
        have R1 := Lib.hid (HF.out.2.ext (h' := fun j => amt (g j)) fun j hj => by rw [if_pos hj])
        obtain ⟨h, hh⟩ : ∃ h : Nat → Int, h = fun j => amt (g j) := ⟨_, rfl⟩
        rw [← hh] at R1
        have hM : Hid (∀ j, Mon (h j)) := Lib.hid (by rw [hh]; exact fun j => amt_bd _)
        clear hh HF R0 hbw
        obtain ⟨r, ok, hs⟩ := SumIs.is h k
        have HS := Lib.hid hs
        have HV := Lib.hid hs.rev
        clear hs
        go_wp2_with fail
        refine (sum_some gB 0 k c h r ok _ R1.out.1 R1.out.hid (by omega) hnc HS).mono ?_; rintro e w2 ⟨rfl, hb2⟩
        have R2 := Lib.hid (R1.out.below hb2)
        have hB2 := Lib.hid (hB1.out.trans (hb2.mono hB1.out.size))
        clear R1 hB1 hb2
        go_wp2_with fail
        go_loopw [9, 43] (fun t i wr => ∃ m : Nat, m ≤ k ∧ i = .int .i64 m ∧ Rev w2 3 h k m t wr) (fun _ i _ => k - (intOf i).toNat)
        case atStart => exact ⟨0, Nat.zero_le _, rfl, World.ownsRow_nil _ _ _ _, Below.refl _ _⟩
        case round =>
          obtain ⟨m, hm, rfl, hr⟩ := hrel
          have HR := Lib.hid hr; clear hr
          by_cases hlt : m < k
          · have cm := ((R2.out.below HR.out.2).2 (k - 1 - m) (by omega)).1
            obtain ⟨x, hx⟩ : ∃ x, h (k - 1 - m) = x := ⟨_, rfl⟩
            rw [hx] at cm
            have HX := Lib.hid hx; clear hx
            go_wp2_with (at_builtin; refine wpList_append_own _ rfl (.tmp 46) (.tmp 55) 29 rfl w2.heap.size 3 i0 (.int .i64 0) 1 8 Try.underlying29 hi hz0 hz1 hz2 rfl (by decide) _ m ((revs h k m).map (Value.int .i64)) rfl (HR.out.1.alloc _) ⟨wr.heap.size, 0, none⟩ 1 1 [.int .i64 x] rfl rfl (cell_one_new _ _ _) (ints_oneCell .i64 [x]) (by unfold maxLen; omega) (by omega) (by have := HR.out.2.size; simp; omega) ?_; intro v3 w3 hown3 hg3 hx3; clear hx3)
            have R3 : Hid (Rev w2 3 h k (m + 1) v3 w3) := Lib.hid ⟨by rw [revs_succ, HX.out]; simpa using hown3, ((HR.out.2.alloc HR.out.2.size _).grown hg3 (by have := HR.out.2.size; simp; omega) (fun b hb => (HR.out.1.lt b hb).1))⟩
            clear hown3 hg3
            go_roundw
            case rel => exact ⟨m + 1, by omega, by go_num, R3.out⟩
            case measure => simp [intOf]; omega
          · obtain rfl : m = k := by omega
            clear hlt hm
            obtain ⟨gt, ct, rfl, hct, hctm⟩ := own_some HR.out.1 (by omega)
            obtain ⟨hbt, RT⟩ := Row.of_own HR.out.1
            have RT := Lib.hid (RT.ext (h' := fun j => h (m - 1 - j)) fun j hj => revs_get h m m j hj)
            have R3 := Lib.hid (R2.out.below HR.out.2)
            have hB3 := Lib.hid (hB2.out.trans (HR.out.2.mono hB2.out.size))
            clear R2 hB2 HR
            go_wp2_with fail
            refine (sum_some gt 0 m ct _ r ok _ RT.out.1 RT.out.hid (by omega) hct HV).mono ?_; rintro e w4 ⟨rfl, hb4⟩
            have R4 := Lib.hid (R3.out.below hb4)
            have hB4 := Lib.hid (hB3.out.trans (hb4.mono hB3.out.size))
            clear R3 hB3 hb4 RT
            go_wp2_with fail
            have L5 := Lib.hid (lit_row w4 [100000000000, 100000000000, -100000000000] 3)
            have R5 := Lib.hid (R4.out.below ((Below.refl _ w4).alloc (Nat.le_refl _) (.cells #[.int .i64 100000000000, .int .i64 100000000000, .int .i64 (-100000000000)] 3)))
            have hB5 := Lib.hid (hB4.out.alloc hB4.out.size (.cells #[.int .i64 100000000000, .int .i64 100000000000, .int .i64 (-100000000000)] 3))
            clear R4 hB4
            refine (sum_some w4.heap.size 0 3 3 _ 100000000000 true _ L5.out.1 L5.out.hid (by omega) (by omega) (Lib.hid sum_three)).mono ?_; rintro e w6 ⟨rfl, hb6⟩
            have R6 := Lib.hid (R5.out.below hb6)
            have hB6 := Lib.hid (hB5.out.trans (hb6.mono hB5.out.size))
            clear R5 hB5 hb6 L5
            go_wp2_with fail
            have L7 := Lib.hid (lit_row w6 [100000000000, 1] 3)
            have R7 := Lib.hid (R6.out.below ((Below.refl _ w6).alloc (Nat.le_refl _) (.cells #[.int .i64 100000000000, .int .i64 1] 3)))
            have hB7 := Lib.hid (hB6.out.alloc hB6.out.size (.cells #[.int .i64 100000000000, .int .i64 1] 3))
            clear R6 hB6
            refine (sum_some w6.heap.size 0 2 2 _ 0 false _ L7.out.1 L7.out.hid (by omega) (by omega) (Lib.hid sum_two)).mono ?_; rintro e w8 ⟨rfl, hb8⟩
            have R8 := Lib.hid (R7.out.below hb8)
            have hB8 := Lib.hid (hB7.out.trans (hb8.mono hB7.out.size))
            clear R7 hB7 hb8 L7
            have hm0 : ((m : Int) == 0) = false := by simp; omega
            obtain ⟨x, hx⟩ : ∃ x : Nat, a1 % (m : Int) = x := ⟨(a1 % (m : Int)).toNat, by have := Int.emod_nonneg a1 (show (m : Int) ≠ 0 by omega); omega⟩
            have hxm : x < m := by have := Int.emod_lt_of_pos a1 (show (0 : Int) < m by omega); omega
            have HX := Lib.hid hx; clear hx
            obtain ⟨f0, f1⟩ := R8.out.2 x hxm
            go_wp2_with (go_at_call 10; (with_reducible refine (within_at _ _ _ _ (by omega) (by omega) HX).mono ?_); rintro e w' ⟨rfl, rfl⟩)
            have R9 := Lib.hid (R8.out.set hxm 100000000001)
            have hB9 := Lib.hid (hB8.out.setCell hbase (.int .i64 100000000001) (p := ⟨gB, x, none⟩))
            clear R8 hB8 f0 f1
            refine (sum_some gB 0 m c _ 0 false _ R9.out.1 R9.out.hid (by omega) hnc (Lib.hid (.inr ⟨rfl, rfl, .inl ⟨x, hxm, by simp [Mon]⟩⟩))).mono ?_; rintro e w10 ⟨rfl, hb10⟩
            have hB10 := Lib.hid (hB9.out.trans (hb10.mono hB9.out.size))
            clear R9 hB9 hb10
            go_wp2_with (go_at_call 15; (with_reducible refine (wakes_any _).mono ?_); rintro e w' ⟨rfl, rfl⟩)
            go_ret
            exact ⟨rfl, hB10.out⟩
end Go.Proofs.Ytbealifdnllimaa
