/- Package split's functions: a contract for each. -/
import Derived.Test.YtgikhbfbjkdadaaSeq
import Derived.Test.YtgikhbfbjkdadaaSplitMath
import Derived.WalkKit
import Derived.WalkSpells
import Derived.WalkLawsBesides
import Derived.Lib.Hide
namespace Go.Proofs.Ytgikhbfbjkdadaa
open Go.RowKit

theorem greatest_at (b n c i : Nat) (h : Nat → Int) (w : World) (HC : Hid (∀ j, j < n → w.cell? ⟨b, j, none⟩ = some (.int .i64 (h j)))) (hp : 0 < n) (hn : n ≤ 1000000) (H : Hid (bst h n = i)) :
    Calls Try.prog 21 #[.slice (some ⟨b, 0, none⟩) n c] w fun e w' => e = .returned (.int .i64 i) ∧ w = w' := by
  go_enter Try.func21, Try.ntmps21
  go_wp2
  go_loop [3, 8] (fun t i => ∃ k : Nat, k ≤ n ∧ i = .int .i64 k ∧ t = .int .i64 (bst h k : Nat)) (fun _ i => n - (intOf i).toNat)
  case atStart => exact ⟨0, Nat.zero_le _, rfl, rfl⟩
  case round =>
    obtain ⟨k, hk, rfl, rfl⟩ := hrel
    have hb : bst h k < n := by have := bst_le h k; by_cases e : k < n; · omega
                                · obtain rfl : k = n := by omega
                                  exact bst_lt h k hp
    by_cases hlt : k < n
    · have ck := HC.out k hlt
      have cb := HC.out _ hb
      obtain ⟨q, hq⟩ : ∃ q, bst h k = q := ⟨_, rfl⟩
      rw [hq] at cb hb ⊢
      have HQ := Lib.hid hq; clear hq
      by_cases hx : h q < h k
      all_goals
        go_wp2
        go_round
        case rel => exact ⟨k + 1, by omega, by go_num, by rw [bst, HQ.out]; first | rw [if_pos hx] | rw [if_neg hx]⟩
        case measure => simp [intOf]; omega
    · obtain rfl : k = n := by omega
      clear hlt hb
      go_wp2
      go_ret
      exact ⟨ret_i (by rw [H.out]), rfl⟩

/-- at the head of a round: the first k parts and rests are there -/
def DivAt (w : World) (len : Nat) (q r : Nat → Int) (k : Nat) (wr : World) : Prop :=
  Below w.heap.size w wr ∧ Row wr w.heap.size len (fun j => if j < k then q j else 0) ∧ Row wr (w.heap.size + 1) len (fun j => if j < k then r j else 0)
theorem part_next {h : Nat → Int} {k : Nat} (j : Nat) : (if j = k then h k else if j < k then h j else 0) = if j < k + 1 then h j else 0 := by
  by_cases e : j = k
  · subst e; simp
  · by_cases l : j < k
    · rw [if_neg e, if_pos l, if_pos (by omega)]
    · rw [if_neg e, if_neg l, if_neg (by omega)]
theorem Row.set_other {w : World} {b n : Nat} {h : Nat → Int} (r : Row w b n h) {a : Addr} (ha : a.block ≠ b) (x : Value) : Row (w.setCell a x) b n h := by
  refine ⟨by simpa using r.1, fun j hj => ⟨?_, by simpa using (r.2 j hj).2⟩⟩
  rw [World.cell?_setCell_other _ _ _ _ (by intro q; exact ha (by rw [q]))]; exact (r.2 j hj).1
theorem DivAt.next {w wr : World} {len k : Nat} {q r : Nat → Int} (d : DivAt w len q r k wr) (hk : k < len) :
    DivAt w len q r (k + 1) ((wr.setCell ⟨w.heap.size, k, none⟩ (.int .i64 (q k))).setCell ⟨w.heap.size + 1, k, none⟩ (.int .i64 (r k))) := by
  obtain ⟨h1, h2, h3⟩ := d
  refine ⟨(h1.setCell (Nat.le_refl _) _).setCell (by simp) _, ?_, ?_⟩
  · exact ((h2.set hk (q k)).set_other (by simp) _).ext fun j _ => part_next j
  · exact ((h3.set_other (by simp) _).set hk (r k)).ext fun j _ => part_next j
/-- at the head of a round: m units are still to be given -/
def GiveAt (w : World) (len : Nat) (R : Nat → Int) (m : Nat) (p r : Nat → Int) (wr : World) : Prop :=
  Below w.heap.size w wr ∧ Row wr w.heap.size len p ∧ Row wr (w.heap.size + 1) len r ∧ gv 0 len m p r = R ∧ ∀ j, j < len → 0 ≤ p j ∧ p j + m ≤ 200000000000
theorem GiveAt.next {w wr : World} {len m : Nat} {R p r : Nat → Int} (d : GiveAt w len R (m + 1) p r wr) {i : Nat} (hi : i < len) (e : bst r len = i) :
    GiveAt w len R m (upd p i (p i + 1)) (upd r i 0) ((wr.setCell ⟨w.heap.size, i, none⟩ (.int .i64 (p i + 1))).setCell ⟨w.heap.size + 1, i, none⟩ (.int .i64 0)) := by
  obtain ⟨h1, h2, h3, h4, h5⟩ := d
  refine ⟨(h1.setCell (Nat.le_refl _) _).setCell (by simp) _, (h2.set hi _).set_other (by simp) _, (h3.set_other (by simp) _).set hi _, by rw [← h4, gv, e], fun j hj => ?_⟩
  have := h5 j hj
  unfold upd; split
  · rename_i e; subst e; omega
  · omega

set_option maxHeartbeats 2000000 in
theorem divide_any (n T : Int) (b off len c : Nat) (g : Nat → Int) (w : World) (hb : b < w.heap.size) (HC : Hid (∀ j, j < len → w.cell? ⟨b, off + j, none⟩ = some (.int .i64 (g j)))) (hp : 0 < len) (hl : len ≤ 16) (h1 : 0 ≤ n) (h2 : n ≤ 100000000000)
    (HT : Hid (tot g len = T)) (hT : 1 ≤ T) (HG : Hid (∀ j, j < len → 0 ≤ g j ∧ g j ≤ 1000000)) :
    Calls Try.prog 19 #[.int .i64 n, .slice (some ⟨b, off, none⟩) len c, .int .i64 T] w fun e w' => e = .returned (.slice (some ⟨w.heap.size, 0, none⟩) len len) ∧ Row w' w.heap.size len (splitF n T len g) ∧ Below w.heap.size w w' := by
  have hmk := run_make_row' (P := Try.prog) 22 3 (.int .i64 0) 8 Try.underlying22 int_info rfl .i64 .i64 len (by omega) (by omega)
  obtain ⟨q, hq⟩ : ∃ q : Nat → Int, q = fun j => n * g j / T := ⟨_, rfl⟩
  obtain ⟨r, hr⟩ : ∃ r : Nat → Int, r = fun j => n * g j % T := ⟨_, rfl⟩
  have hm := missing_bd (n := n) (show 0 < T by omega) HT.out
  have hq0 : ∀ j, j < len → 0 ≤ q j ∧ q j ≤ 100000000000 := by
    intro j hj
    obtain ⟨g1, g2⟩ := HG.out j hj
    have a := Int.ediv_nonneg (Int.mul_nonneg h1 g1) (show 0 ≤ T by omega)
    have le := tot_one_le len (fun j hj => (HG.out j hj).1) j hj
    rw [HT.out] at le
    have b : n * g j / T ≤ n := Int.ediv_le_of_le_mul (by omega) (Int.mul_le_mul_of_nonneg_left le h1)
    rw [hq]; exact ⟨a, by show n * g j / T ≤ _; omega⟩
  have hR : splitF n T len g = gv 0 len (n - tot q len).toNat q r := by rw [hq, hr, splitF]
  obtain ⟨R, hR'⟩ : ∃ R, R = splitF n T len g := ⟨_, rfl⟩
  rw [← hR'] at hR ⊢
  rw [← hq] at hm
  have hm1 := Lib.hid hm.1
  have qe : ∀ j, n * g j / T = q j := fun j => by rw [hq]
  have re : ∀ j, n * g j % T = r j := fun j => by rw [hr]
  have HQ := Lib.hid hq0
  have HR := Lib.hid hR
  have QE := Lib.hid qe
  have RE := Lib.hid re
  clear hq hr hm hq0 hR hR' qe re
  have tb : Hid (∀ k, k ≤ len → 0 ≤ tot q k ∧ tot q k ≤ 1600000000000) := Lib.hid fun k hk => by
    refine ⟨tot_nonneg k fun j hj => (HQ.out j (by omega)).1, ?_⟩
    have := tot_le (h := fun _ => 100000000000) k fun j hj => (HQ.out j (by omega)).2
    rw [tot_const] at this; omega
  go_enter Try.func19, Try.ntmps19
  go_wp2
  go_loopw [9, 22] (fun t i wr => ∃ k : Nat, k ≤ len ∧ i = .int .i64 k ∧ t = .int .i64 (n - tot q k) ∧ DivAt w len q r k wr) (fun _ i _ => len - (intOf i).toNat)
  case atStart =>
    have m1 := made_row w len 3
    have m2 := made_row (w.alloc (.cells (madeCells #[.int .i64 0] len) 3)) len 3
    refine ⟨0, Nat.zero_le _, rfl, by simp [tot], ((Below.refl _ _).alloc (Nat.le_refl _) _).alloc (by simp) _, ?_, ?_⟩
    · exact (m1.below ((Below.refl _ _).alloc (Nat.le_refl _) _)).ext fun j _ => by simp
    · exact (by simpa using m2 : Row _ (w.heap.size + 1) len _).ext fun j _ => by simp
  case round =>
    obtain ⟨k, hk, rfl, rfl, hd⟩ := hrel
    obtain ⟨tb1, tb2⟩ := tb.out k hk
    by_cases hlt : k < len
    · obtain ⟨tb3, tb4⟩ := tb.out (k + 1) (by omega)
      have hq := QE.out k
      have hr := RE.out k
      obtain ⟨x, hx⟩ : ∃ x, g k = x := ⟨_, rfl⟩
      obtain ⟨g1, g2⟩ := HG.out k hlt
      obtain ⟨q1, q2⟩ := HQ.out k hlt
      have ck : wr.cell? ⟨b, off + k, none⟩ = some (.int .i64 x) := by rw [← hx]; exact (hd.1.cell (p := ⟨b, off + k, none⟩) hb).trans (HC.out k hlt)
      rw [hx] at hq hr g1 g2
      obtain ⟨p1, p2⟩ := mul_bd (A := 100000000000) (by omega) h2 g1 g2
      have p3 := Int.mul_nonneg h1 g1
      obtain ⟨c1, f1⟩ := hd.2.1.2 k hlt
      obtain ⟨c2, f2⟩ := hd.2.2.2 k hlt
      simp only [if_neg (show ¬ k < k by omega)] at c1 c2
      have ht : tot q (k + 1) = tot q k + q k := rfl
      have HD := Lib.hid hd
      have HX := Lib.hid hx
      clear hd hx
      rw [ht] at tb3 tb4
      have HT' := Lib.hid ht; clear ht
      obtain ⟨y, hy⟩ : ∃ y, q k = y := ⟨_, rfl⟩
      obtain ⟨z, hz⟩ : ∃ z, r k = z := ⟨_, rfl⟩
      rw [hy] at hq q1 q2 tb3 tb4
      rw [hz] at hr
      have HY := Lib.hid hy
      have HZ := Lib.hid hz
      clear hy hz
      go_wp2
      go_roundw
      case rel =>
        refine ⟨k + 1, by omega, by go_num, by rw [HT'.out, HY.out]; go_num, ?_⟩
        have := HD.out.next hlt
        rw [HY.out, HZ.out] at this
        exact this
      case measure => simp [intOf]; omega
    · obtain rfl : k = len := by omega
      clear hlt
      have hg : ∃ (m : Nat) (p s : Nat → Int), n - tot q k = m ∧ GiveAt w k R m p s wr := by
        refine ⟨(n - tot q k).toNat, q, r, by have := hm1.out; omega, hd.1, hd.2.1.ext fun j hj => if_pos hj, hd.2.2.ext fun j hj => if_pos hj, HR.out.symm, fun j hj => ?_⟩
        have := HQ.out j hj
        have := hm1.out
        omega
      obtain ⟨m, p, s, hm, hg⟩ := hg
      rw [hm]
      have HGV := Lib.hid hg
      clear hg hd hm hmk
      go_wp2
      go_loopw [9] (fun t wr => ∃ (m : Nat) (p s : Nat → Int), t = .int .i64 m ∧ GiveAt w k R m p s wr) (fun t _ => (intOf t).toNat)
      case atStart => exact ⟨m, p, s, rfl, HGV.out⟩
      case round =>
        obtain ⟨m, p, s, rfl, hd⟩ := hrel
        rcases m with _ | m
        · obtain ⟨d1, d2, d3, d4, d5⟩ := hd
          have d4' : p = R := by rw [← d4]; rfl
          subst d4'
          clear d4
          go_wp2
          go_ret
          exact ⟨rfl, d2, d1⟩
        · obtain ⟨i, hi⟩ : ∃ i, bst s k = i := ⟨_, rfl⟩
          have hik : i < k := by rw [← hi]; exact bst_lt s k hp
          obtain ⟨c1, f1⟩ := hd.2.1.2 i hik
          obtain ⟨c2, f2⟩ := hd.2.2.1.2 i hik
          obtain ⟨b1, b2⟩ := hd.2.2.2.2 i hik
          have HC2 : Hid (∀ j, j < k → wr.cell? ⟨w.heap.size + 1, j, none⟩ = some (.int .i64 (s j))) := Lib.hid fun j hj => (hd.2.2.1.2 j hj).1
          have HD := Lib.hid hd
          have HI := Lib.hid hi
          clear hd hi
          go_wp2_with (go_at_call 21; (with_reducible refine (greatest_at _ _ _ i s _ HC2 hp (by omega) HI).mono ?_); rintro e w' ⟨rfl, rfl⟩)
          go_roundw
          case rel => exact ⟨m, _, _, by first | rfl | go_num, HD.out.next hik HI.out⟩
          case measure => simp [intOf]
theorem negated_any (B len c : Nat) (h : Nat → Int) (w : World) (base : Nat) (hr : Row w B len h) (hB : base ≤ B) (hl : len ≤ 1000000) (hb : Hid (∀ j, j < len → -200000000000 ≤ h j ∧ h j ≤ 200000000000)) :
    Calls Try.prog 18 #[.slice (some ⟨B, 0, none⟩) len c] w fun e w' => e = .returned (.slice (some ⟨B, 0, none⟩) len c) ∧ Row w' B len (fun j => -h j) ∧ Below base w w' := by
  have HR := Lib.hid hr
  clear hr
  go_enter Try.func18, Try.ntmps18
  go_wp2
  go_loopw [6] (fun i wr => ∃ k : Nat, k ≤ len ∧ i = .int .i64 k ∧ Below base w wr ∧ Row wr B len (fun j => if j < k then -h j else h j)) (fun i _ => len - (intOf i).toNat)
  case atStart => exact ⟨0, Nat.zero_le _, rfl, Below.refl _ _, HR.out.ext fun j _ => by simp⟩
  case round =>
    obtain ⟨k, hk, rfl, hbw, hrow⟩ := hrel
    by_cases hlt : k < len
    · obtain ⟨c1, f1⟩ := hrow.2 k hlt
      simp only [if_neg (show ¬ k < k by omega)] at c1
      obtain ⟨b1, b2⟩ := hb.out k hlt
      obtain ⟨x, hx⟩ : ∃ x, h k = x := ⟨_, rfl⟩
      rw [hx] at c1 b1 b2
      have HX := Lib.hid hx; clear hx
      have HW := Lib.hid hrow; clear hrow
      go_wp2
      go_roundw
      case rel =>
        refine ⟨k + 1, by omega, by go_num, hbw.setCell hB _, (HW.out.set hlt (-x)).ext fun j _ => ?_⟩
        by_cases e : j = k
        · subst e; simp [HX.out]
        · by_cases l : j < k
          · rw [if_neg e, if_pos l, if_pos (by omega)]
          · rw [if_neg e, if_neg l, if_neg (by omega)]
      case measure => simp [intOf]; omega
    · obtain rfl : k = len := by omega
      clear hlt
      have HW := Lib.hid hrow; clear hrow
      go_wp2
      go_ret
      exact ⟨rfl, HW.out.ext fun j hj => by simp [hj], hbw⟩

/-- is a weight one that may be? -/
def Wgt (x : Int) : Prop := 0 ≤ x ∧ x ≤ 1000000
theorem wgt_tot {g : Nat → Int} (k : Nat) (h : ∀ j, j < k → Wgt (g j)) : 0 ≤ tot g k ∧ tot g k ≤ 1000000 * (k : Int) := by
  refine ⟨tot_nonneg k fun j hj => (h j hj).1, ?_⟩
  have := tot_le (h := fun _ => 1000000) k fun j hj => (h j hj).2
  rw [tot_const] at this; exact this
theorem sow_many (A : Option Addr) (len c : Nat) (w : World) (h : 16 < len) :
    Calls Try.prog 16 #[.slice A len c] w fun e w' => e = .returned (.tuple #[.int .i64 0, .bool false]) ∧ w = w' := by
  go_enter Try.func16, Try.ntmps16
  go_wp2
  go_ret2
  exact ⟨rfl, rfl⟩
theorem sow_none (A : Option Addr) (c : Nat) (w : World) :
    Calls Try.prog 16 #[.slice A 0 c] w fun e w' => e = .returned (.tuple #[.int .i64 0, .bool false]) ∧ w = w' := by
  go_enter Try.func16, Try.ntmps16
  go_wp2
  refine wp_loop_rounds 1 ?_; rw [rounds_succ]
  go_wp2
  go_ret2
  exact ⟨rfl, rfl⟩
set_option maxHeartbeats 1000000 in
theorem sow_some (b off len c : Nat) (g : Nat → Int) (w : World) (HC : Hid (∀ j, j < len → w.cell? ⟨b, off + j, none⟩ = some (.int .i64 (g j)))) (hl : len ≤ 16) (r : Int) (ok : Bool)
    (H : Hid ((ok = true ∧ r = tot g len ∧ 0 < tot g len ∧ ∀ j, j < len → Wgt (g j)) ∨ (ok = false ∧ r = 0 ∧ ((∃ j, j < len ∧ ¬ Wgt (g j)) ∨ tot g len = 0 ∧ ∀ j, j < len → Wgt (g j))))) :
    Calls Try.prog 16 #[.slice (some ⟨b, off, none⟩) len c] w fun e w' => e = .returned (.tuple #[.int .i64 r, .bool ok]) ∧ w = w' := by
  go_enter Try.func16, Try.ntmps16
  go_wp2
  go_loop [4, 12] (fun t i => ∃ k : Nat, k ≤ len ∧ i = .int .i64 k ∧ t = .int .i64 (tot g k) ∧ Hid (∀ j, j < k → Wgt (g j))) (fun _ i => len - (intOf i).toNat)
  case atStart => exact ⟨0, Nat.zero_le _, rfl, rfl, Lib.hid fun j hj => by omega⟩
  case round =>
    obtain ⟨k, hk, rfl, rfl, HM⟩ := hrel
    obtain ⟨tb1, tb2⟩ := wgt_tot k HM.out
    by_cases hlt : k < len
    · have ck := HC.out k hlt
      obtain ⟨x, hx⟩ : ∃ x, g k = x := ⟨_, rfl⟩
      rw [hx] at ck
      have HX := Lib.hid hx; clear hx
      by_cases hm : Wgt x
      · obtain ⟨m1, m2⟩ := hm
        have HM' : Hid (∀ j, j < k + 1 → Wgt (g j)) := Lib.hid fun j hj => by
          rcases Nat.lt_or_ge j k with h | h
          · exact HM.out j h
          · rw [show j = k by omega, HX.out]; exact ⟨m1, m2⟩
        go_wp2
        go_round
        case rel => exact ⟨k + 1, by omega, by go_num, by rw [tot, HX.out], HM'⟩
        case measure => simp [intOf]; omega
      · have hbad : ok = false ∧ r = 0 := by
          rcases H.out with ⟨_, _, _, h⟩ | ⟨h1, h2, _⟩
          · exact absurd (h k hlt) (by rw [HX.out]; exact hm)
          · exact ⟨h1, h2⟩
        obtain ⟨e1, e2⟩ := hbad
        subst e1; subst e2
        by_cases m1 : x < 0
        · clear hm
          go_wp2
          go_ret2
          exact ⟨rfl, rfl⟩
        · have m2 : 1000000 < x := by unfold Wgt at hm; omega
          clear hm
          go_wp2
          go_ret2
          exact ⟨rfl, rfl⟩
    · obtain rfl : k = len := by omega
      clear hlt
      have hgood : r = tot g k ∧ ok = decide (0 < tot g k) := by
        rcases H.out with ⟨h1, h2, h3, _⟩ | ⟨h1, h2, ⟨j, hj, hx⟩ | ⟨h3, _⟩⟩
        · exact ⟨h2, by rw [h1]; simp [h3]⟩
        · exact absurd (HM.out j hj) hx
        · rw [h1, h2, h3]; simp
      have HG := Lib.hid hgood; clear hgood
      by_cases hz : 0 < tot g k
      all_goals
        go_wp2
        go_ret2
        exact ⟨ret_ib HG.out.1.symm (by rw [HG.out.2]; simp [hz]), rfl⟩

theorem splitF_bd {n T : Int} {len : Nat} {g : Nat → Int} (hT : 0 < T) (hg : tot g len = T) (h1 : 0 ≤ n) (h2 : n ≤ 100000000000) (hw : ∀ j, j < len → Wgt (g j)) {j : Nat} (hj : j < len) : 0 ≤ splitF n T len g j ∧ splitF n T len g j ≤ 100000000000 := by
  have a := fun i (hi : i < len) => splitF_nonneg hT hg h1 hi (hw i hi).1
  have b := tot_one_le len a j hj
  rw [splitF_tot hT hg] at b
  exact ⟨a j hj, by omega⟩
theorem splitV_bd {n : Int} {len : Nat} {g : Nat → Int} (hT : 0 < tot g len) (h : Mon n) (hw : ∀ j, j < len → Wgt (g j)) {j : Nat} (hj : j < len) : Mon (splitV n len g j) := by
  unfold Mon at *
  unfold splitV; split
  · have := splitF_bd (n := -n) hT rfl (by omega) (by omega) hw hj; simp only []; omega
  · have := splitF_bd (n := n) hT rfl (by omega) (by omega) hw hj; omega
theorem split_yes (n : Int) (b off len c : Nat) (g : Nat → Int) (w : World) (hb : b < w.heap.size) (HC : Hid (∀ j, j < len → w.cell? ⟨b, off + j, none⟩ = some (.int .i64 (g j)))) (H : Hid (SplitOk n len g)) :
    Calls Try.prog 9 #[.int .i64 n, .slice (some ⟨b, off, none⟩) len c] w fun e w' => ∃ B, e = .returned (.tuple #[.slice (some ⟨B, 0, none⟩) len len, .bool true]) ∧ w.heap.size ≤ B ∧ Row w' B len (splitV n len g) ∧ Below w.heap.size w w' := by
  obtain ⟨⟨n1, n2⟩, h2, h3, h4⟩ := H.out
  have hp : 0 < len := by rcases Nat.eq_zero_or_pos len with e | e; · subst e; simp [tot] at h4
                          · exact e
  obtain ⟨T, hT⟩ : ∃ T, tot g len = T := ⟨_, rfl⟩
  have hS : Hid ((true = true ∧ T = tot g len ∧ 0 < tot g len ∧ ∀ j, j < len → Wgt (g j)) ∨ (true = false ∧ T = 0 ∧ ((∃ j, j < len ∧ ¬ Wgt (g j)) ∨ tot g len = 0 ∧ ∀ j, j < len → Wgt (g j)))) := Lib.hid (.inl ⟨rfl, hT.symm, h4, h3⟩)
  rw [hT] at h4
  have HW : Hid (∀ j, j < len → Wgt (g j)) := Lib.hid h3
  have HG : Hid (∀ j, j < len → 0 ≤ g j ∧ g j ≤ 1000000) := Lib.hid h3
  have HT := Lib.hid hT
  clear H h3 hT
  by_cases hn : n < 0
  · have e : splitV n len g = fun j => -splitF (-n) T len g j := by rw [splitV, if_pos hn, HT.out]
    have E := Lib.hid e; clear e
    have HB : Hid (∀ j, j < len → -200000000000 ≤ splitF (-n) T len g j ∧ splitF (-n) T len g j ≤ 200000000000) := Lib.hid fun j hj => by
      have := splitF_bd (n := -n) h4 HT.out (by omega) (by omega) HW.out hj; omega
    go_enter Try.func9, Try.ntmps9
    go_wp2_with (first | (go_at_call 16; (with_reducible refine (sow_some b off len c g w HC h2 T true hS).mono ?_); rintro e w' ⟨rfl, rfl⟩) | (go_at_call 17; (with_reducible refine (money_yes _ _ (by omega) (by omega)).mono ?_); rintro e w' ⟨rfl, rfl⟩) | (go_at_call 19; (with_reducible refine (divide_any _ _ b off len c g w hb HC hp h2 (by omega) (by omega) HT (by omega) HG).mono ?_); rintro e w1 ⟨rfl, hr1, hb1⟩; have HR1 := Lib.hid hr1; clear hr1) | (go_at_call 18; (with_reducible refine (negated_any _ _ _ _ _ w.heap.size HR1.out (Nat.le_refl _) (by omega) HB).mono ?_); rintro e w2 ⟨rfl, hr2, hb2⟩))
    go_ret2
    exact ⟨_, rfl, Nat.le_refl _, by rw [E.out]; exact hr2, hb1.trans hb2⟩
  · have e : splitV n len g = splitF n T len g := by rw [splitV, if_neg hn, HT.out]
    have E := Lib.hid e; clear e
    go_enter Try.func9, Try.ntmps9
    go_wp2_with (first | (go_at_call 16; (with_reducible refine (sow_some b off len c g w HC h2 T true hS).mono ?_); rintro e w' ⟨rfl, rfl⟩) | (go_at_call 17; (with_reducible refine (money_yes _ _ (by omega) (by omega)).mono ?_); rintro e w' ⟨rfl, rfl⟩) | (go_at_call 19; (with_reducible refine (divide_any _ _ b off len c g w hb HC hp h2 (by omega) (by omega) HT (by omega) HG).mono ?_); rintro e w1 ⟨rfl, hr1, hb1⟩; have HR1 := Lib.hid hr1; clear hr1))
    go_ret2
    exact ⟨_, rfl, Nat.le_refl _, by rw [E.out]; exact HR1.out, hb1⟩
theorem split_no (n : Int) (A : Option Addr) (len c : Nat) (g : Nat → Int) (w : World) (hA : At w A len g) (H : Hid (¬ SplitOk n len g)) :
    Calls Try.prog 9 #[.int .i64 n, .slice A len c] w fun e w' => e = .returned (.tuple #[.slice none 0 0, .bool false]) ∧ w = w' := by
  have HA := Lib.hid hA
  clear hA
  by_cases hs : len ≤ 16 ∧ (∀ j, j < len → Wgt (g j)) ∧ 0 < tot g len
  · have hm : n < -100000000000 ∨ 100000000000 < n := by
      have := H.out; unfold SplitOk Mon at this
      by_cases e : -100000000000 ≤ n ∧ n ≤ 100000000000
      · exact absurd ⟨e, hs.1, hs.2.1, hs.2.2⟩ this
      · omega
    obtain ⟨h2, h3, h4⟩ := hs
    have hp : 0 < len := by rcases Nat.eq_zero_or_pos len with e | e; · subst e; simp [tot] at h4
                            · exact e
    obtain ⟨b, off, rfl, hb, hc⟩ := HA.out.some hp
    have HC := Lib.hid hc
    have hS : Hid ((true = true ∧ tot g len = tot g len ∧ 0 < tot g len ∧ ∀ j, j < len → Wgt (g j)) ∨ (true = false ∧ tot g len = 0 ∧ ((∃ j, j < len ∧ ¬ Wgt (g j)) ∨ tot g len = 0 ∧ ∀ j, j < len → Wgt (g j)))) := Lib.hid (.inl ⟨rfl, rfl, h4, h3⟩)
    clear hc h3
    go_enter Try.func9, Try.ntmps9
    go_wp2_with (first | (go_at_call 16; (with_reducible refine (sow_some b off len c g w HC h2 _ true hS).mono ?_); rintro e w' ⟨rfl, rfl⟩) | (go_at_call 17; (with_reducible refine (money_no _ _ hm).mono ?_); rintro e w' ⟨rfl, rfl⟩))
    go_ret2
    exact ⟨rfl, rfl⟩
  · clear H
    have ct : ∀ w', w = w' → Calls Try.prog 16 #[.slice A len c] w' fun e w' => e = .returned (.tuple #[.int .i64 0, .bool false]) ∧ w = w' := by
      rintro _ rfl
      rcases Nat.eq_zero_or_pos len with h0 | hp
      · subst h0; exact sow_none _ _ _
      · by_cases h16 : len ≤ 16
        · obtain ⟨b, off, rfl, hb, hc⟩ := HA.out.some hp
          refine sow_some b off len c g w (Lib.hid hc) h16 0 false (Lib.hid (.inr ⟨rfl, rfl, ?_⟩))
          by_cases hw : ∀ j, j < len → Wgt (g j)
          · right
            refine ⟨?_, hw⟩
            have := (wgt_tot len hw).1
            have : ¬ 0 < tot g len := fun h => hs ⟨h16, hw, h⟩
            omega
          · left; simpa using hw
        · exact sow_many _ _ _ _ (by omega)
    have CT := Lib.hid ct
    clear ct hs
    go_enter Try.func9, Try.ntmps9
    go_wp2_with (go_at_call 16; (with_reducible refine (CT.out _ rfl).mono ?_); rintro e w' ⟨rfl, rfl⟩)
    go_ret2
    exact ⟨rfl, rfl⟩
end Go.Proofs.Ytgikhbfbjkdadaa
