/- ChartBack: its walk. -/
import Derived.Test.YtnnjmhfcalimeaaChart
import Derived.Test.YtnnjmhfcalimeaaSeen
import Derived.Test.YtnnjmhfcalimeaaRefP
import Derived.WalkKit
import Derived.WalkSpells
import Derived.WalkLawsBesides
import Derived.Lib.Hide
import Derived.Deep.LoopGhost
namespace Go.Proofs.Ytnnjmhfcalimeaa
open Go.RowKit

/-- how many of the first n accounts are costs -/
def cnt : Nat → Int
  | 0 => 0
  | n + 1 => cnt n + if cst ((n : Int) + 1) = true then 1 else 0
theorem cnt_bd : ∀ n, 0 ≤ cnt n ∧ cnt n ≤ n
  | 0 => by simp [cnt]
  | n + 1 => by have := cnt_bd n; rw [cnt]; split <;> omega
theorem nm_size (k : Nat) : (nm k).size ≤ maxLen := by
  unfold nm maxLen
  split <;> decide
theorem nm_nil {k : Nat} (h1 : 1 ≤ k) (h2 : k ≤ 7) : ((nm k).toList == []) = false := by
  have := bytes_not (nm_some h1 h2)
  rwa [show (ByteArray.mk #[]).toList = [] by rw [ByteArray.toList_eq]] at this
/-- what block w.heap.size + 1 holds: all accounts -/
def AccAt (w : World) (B : Nat) : Prop := B < w.heap.size ∧ ∀ i, i < 7 → w.cell? ⟨B, i, none⟩ = some (.int .i64 ((i : Int) + 1))
theorem AccAt.below {w w' : World} {B : Nat} (h : AccAt w B) (k : Below w.heap.size w w') : AccAt w' B :=
  ⟨Nat.lt_of_lt_of_le h.1 k.size, fun i hi => (k.cell (p := ⟨B, i, none⟩) h.1).trans (h.2 i hi)⟩
theorem AccAt.grown {w w' : World} {B M : Nat} (h : AccAt w B) (k : w.grownBy w' (some M)) (hne : B ≠ M) : AccAt w' B :=
  ⟨Nat.lt_of_lt_of_le h.1 k.size, fun i hi => (k.cell_far ⟨B, i, none⟩ h.1 (by simpa using hne)).trans (h.2 i hi)⟩
set_option maxHeartbeats 2000000 in
theorem chartBack_walk (a0 : Int) (a1 : ByteArray) (w : World) (_w0 : (Lit.int .i64 a0).wf = true) (w1 : a1.size ≤ maxLen) :
    Calls Try.prog 3 #[.int .i64 a0, .string a1] w fun e w' => e = .returned (.bool true) ∧ Below w.heap.size w w' := by
  clear _w0
  obtain ⟨t, ht⟩ : ∃ t, cutb a1 12 = t := ⟨_, rfl⟩
  have hts : t.size ≤ maxLen := by
    have := cutb_size a1 12 (by omega)
    rw [ht] at this
    unfold maxLen; omega
  have KT : Hid (∀ w, Calls Try.prog 9 #[.string a1, .int .i64 12] w fun e w' => e = .returned (.string t) ∧ w = w') := Lib.hid fun w => by
    have := ktext_any a1 12 w (by omega) (by omega) w1
    rw [ht] at this; exact this
  have HTS := Lib.hid hts
  clear w1 ht hts
  obtain ⟨K, b, hf⟩ := found_any t 7
  have HF := Lib.hid hf
  clear hf
  have OT : Hid (∀ w, Calls Try.prog 7 #[.string t] w fun e w' => e = .returned (.tuple #[.int .i64 K, .bool b]) ∧ Below w.heap.size w w') := Lib.hid fun w => cof_any t K b w HF.out
  have ON : Hid (∀ w, Calls Try.prog 7 #[.string ⟨#[]⟩] w fun e w' => e = .returned (.tuple #[.int .i64 0, .bool false]) ∧ Below w.heap.size w w') := Lib.hid fun w => cof_any _ 0 false w (.inr ⟨rfl, rfl, fun j h1 h2 => nm_some h1 h2⟩)
  have hmm := @run_makeMap Try.prog
  go_enter Try.func3, Try.ntmps3
  go_wp2_with (go_at_call 5; (with_reducible refine (caccs_any _).mono ?_); rintro e w2 ⟨rfl, hr2, hb2⟩; have HR := Lib.hid hr2; have HB2 := Lib.hid hb2; clear hr2 hb2)
  have HS := Lib.hid (SetAt.below (World.ownsMap_made w Try.prog 9 (plainElem Try.prog 4)) HB2.out : SetAt w2 w.heap.size 0 (seenD 0))
  have HA : Hid (AccAt w2 (w.heap.size + 1)) := Lib.hid (by
    have h := HR.out
    rw [World.size_alloc] at h
    exact ⟨h.1, fun i hi => (h.2 i hi).1⟩)
  have HB := Lib.hid (((Below.refl w.heap.size w).alloc (Nat.le_refl _) (.map #[] 0)).trans (HB2.out.mono (by simp)))
  clear HR HB2
  go_loopg [6, 20] 7 (fun gh u i wr => ∃ j : Nat, j ≤ 7 ∧ gh = 7 - j ∧ u = .int .i64 (cnt j) ∧ i = .int .i64 j ∧ SetAt wr w.heap.size j (seenD j) ∧ AccAt wr (w.heap.size + 1) ∧ Below w.heap.size w wr)
  case atStart => exact ⟨0, Nat.zero_le _, rfl, rfl, rfl, HS.out, HA.out, HB.out⟩
  case round =>
    obtain ⟨j, hj, hgj, rfl, rfl, hs, ha, hb⟩ := hrel
    have HG := Lib.hid hgj
    replace HS := Lib.hid hs
    replace HA := Lib.hid ha
    replace HB := Lib.hid hb
    clear hgj hs ha hb
    have cb := cnt_bd j
    obtain ⟨c, hc⟩ : ∃ c, cnt j = c := ⟨_, rfl⟩
    rw [hc] at cb ⊢
    have HC := Lib.hid hc
    clear hc
    obtain ⟨cb1, cb2⟩ := cb
    by_cases hlt : j < 7
    · have cj := HA.out.2 j hlt
      have CN : Hid (∀ w, Calls Try.prog 6 #[.int .i64 ((j : Int) + 1)] w fun e w' => e = .returned (.string (nm (j + 1))) ∧ w = w') := Lib.hid fun w => cname_at (j + 1) w (by omega) (by omega)
      have CO : Hid (∀ w, Calls Try.prog 7 #[.string (nm (j + 1))] w fun e w' => e = .returned (.tuple #[.int .i64 ((j : Int) + 1), .bool true]) ∧ Below w.heap.size w w') := Lib.hid fun w => cof_any _ (j + 1) true w (.inl ⟨rfl, by omega, by omega, rfl⟩)
      obtain ⟨q, hq⟩ : ∃ q, cst ((j : Int) + 1) = q := ⟨_, rfl⟩
      have CC : Hid (∀ w, Calls Try.prog 8 #[.int .i64 ((j : Int) + 1)] w fun e w' => e = .returned (.bool q) ∧ w = w') := Lib.hid fun w => by have := ccost_any ((j : Int) + 1) w; rwa [hq] at this
      have HQ := Lib.hid hq
      clear hq
      have hne := nm_nil (show 1 ≤ j + 1 by omega) (show j + 1 ≤ 7 by omega)
      have HN : Hid (∀ i, 1 ≤ i → i ≤ j → nm i ≠ nm (j + 1)) := Lib.hid fun i h1 h2 e => by have := nm_inj h1 (by omega) (by omega) (by omega) e; omega
      obtain ⟨s, hs⟩ : ∃ s, nm (j + 1) = s := ⟨_, rfl⟩
      have HSZ := Lib.hid (nm_size (j + 1))
      have HST := Lib.hid hs
      rw [hs] at hne CN CO HN HSZ
      clear hs
      cases q
      all_goals
        go_wp2_with (first
          | (go_at_call 6; (with_reducible refine (CN.out _).mono ?_); rintro e w' ⟨rfl, rfl⟩)
          | (go_at_call 8; (with_reducible refine (CC.out _).mono ?_); rintro e w' ⟨rfl, rfl⟩)
          | (go_at_call 7; (with_reducible refine (CO.out _).mono ?_); rintro e w3 ⟨rfl, hb2⟩; replace HS := Lib.hid (HS.out.below hb2); replace HA := Lib.hid (HA.out.below hb2); replace HB := Lib.hid (HB.out.trans (hb2.mono HB.out.size)); clear hb2; have hlk := HS.out.look s HSZ.out false (seen_no HN.out _))
          | (at_mapUpdate; refine wpList_mapUpdate_own _ rfl _ _ _ 22 rfl 9 4 (Maps.string_keyed Try.underlying9) Try.underlying22 (plainElem Try.prog 4) w.heap.size j (seenD j) rfl HS.out (by unfold maxLen; omega) _ _ _ rfl rfl (kl_key _ HSZ.out) yes [] (plainElem_bool Try.underlying4 true) ?_; intro w4 hown4 hg4; clear hlk; replace HS := Lib.hid hown4; replace HA := Lib.hid (HA.out.grown hg4 (by omega)); replace HB := Lib.hid (HB.out.grown hg4 HB.out.size (fun k hk => by injection hk with hk; omega)); clear hown4 hg4))
        go_roundg (7 - (j + 1))
        case measure => have := HG.out; omega
        case rel => exact ⟨j + 1, by omega, rfl, congrArg (Value.int .i64) (by rw [cnt, HC.out, HQ.out]; simp), by go_num, by have h := HS.out; rw [← HST.out] at h; exact h, HA.out, HB.out⟩
    · obtain rfl : j = 7 := by omega
      obtain rfl : c = 3 := by rw [← HC.out]; decide
      have HZ := Lib.hid (seen_size 7 (by omega))
      have HL := Lib.hid (seen_found HF.out)
      clear hlt hj HG HC cb1 cb2 HF
      by_cases h : 1 ≤ a0 ∧ a0 ≤ 7
      · obtain ⟨k, rfl⟩ : ∃ k : Nat, a0 = k := ⟨a0.toNat, by omega⟩
        obtain ⟨h1, h2⟩ := h
        have CN : Hid (∀ w, Calls Try.prog 6 #[.int .i64 (k : Int)] w fun e w' => e = .returned (.string (nm k)) ∧ w = w') := Lib.hid fun w => cname_at k w (by omega) (by omega)
        have hne := nm_nil (show 1 ≤ k by omega) (show k ≤ 7 by omega)
        generalize nm k = s at *
        go_wp2_with (first
          | (go_at_call 9; (with_reducible refine (KT.out _).mono ?_); rintro e w' ⟨rfl, rfl⟩)
          | (go_at_call 6; (with_reducible refine (CN.out _).mono ?_); rintro e w' ⟨rfl, rfl⟩)
          | (go_at_call 7; (with_reducible refine (OT.out _).mono ?_); rintro e w3 ⟨rfl, hb2⟩; replace HS := Lib.hid (HS.out.below hb2); replace HA := Lib.hid (HA.out.below hb2); replace HB := Lib.hid (HB.out.trans (hb2.mono HB.out.size)); clear hb2)
          | (go_at_call 7; (with_reducible refine (ON.out _).mono ?_); rintro e w4 ⟨rfl, hb2⟩; replace HS := Lib.hid (HS.out.below hb2); replace HA := Lib.hid (HA.out.below hb2); replace HB := Lib.hid (HB.out.trans (hb2.mono HB.out.size)); clear hb2; have hlk := HS.out.look t HTS.out b HL.out)
          | (at_len; refine wpList_len_own _ rfl _ 22 rfl 9 4 Try.underlying22 _ w.heap.size 7 (seenD 7) rfl HS.out ?_; rw [HZ.out])
          | (go_at_call 10; (with_reducible refine (wakes5_any _).mono ?_); rintro e w' ⟨rfl, rfl⟩))
        go_ret
        exact ⟨ret_b (by first | rfl | (simp; done) | (simp; omega)), HB.out⟩
      · have CN : Hid (∀ w, Calls Try.prog 6 #[.int .i64 a0] w fun e w' => e = .returned (.string ⟨#[]⟩) ∧ w = w') := Lib.hid fun w => cname_no a0 w (by omega)
        have hcs : cst a0 = false := by simp [cst]; omega
        have CC : Hid (∀ w, Calls Try.prog 8 #[.int .i64 a0] w fun e w' => e = .returned (.bool false) ∧ w = w') := Lib.hid fun w => by have := ccost_any a0 w; rwa [hcs] at this
        clear hcs
        rcases (show a0 < 1 ∨ 7 < a0 by omega) with h1 | h1
        all_goals
          clear h
          go_wp2_with (first
            | (go_at_call 9; (with_reducible refine (KT.out _).mono ?_); rintro e w' ⟨rfl, rfl⟩)
            | (go_at_call 6; (with_reducible refine (CN.out _).mono ?_); rintro e w' ⟨rfl, rfl⟩)
            | (go_at_call 8; (with_reducible refine (CC.out _).mono ?_); rintro e w' ⟨rfl, rfl⟩)
            | (go_at_call 7; (with_reducible refine (OT.out _).mono ?_); rintro e w3 ⟨rfl, hb2⟩; replace HS := Lib.hid (HS.out.below hb2); replace HA := Lib.hid (HA.out.below hb2); replace HB := Lib.hid (HB.out.trans (hb2.mono HB.out.size)); clear hb2)
            | (go_at_call 7; (with_reducible refine (ON.out _).mono ?_); rintro e w4 ⟨rfl, hb2⟩; replace HS := Lib.hid (HS.out.below hb2); replace HA := Lib.hid (HA.out.below hb2); replace HB := Lib.hid (HB.out.trans (hb2.mono HB.out.size)); clear hb2; have hlk := HS.out.look t HTS.out b HL.out)
            | (at_len; refine wpList_len_own _ rfl _ 22 rfl 9 4 Try.underlying22 _ w.heap.size 7 (seenD 7) rfl HS.out ?_; rw [HZ.out])
            | (go_at_call 10; (with_reducible refine (wakes5_any _).mono ?_); rintro e w' ⟨rfl, rfl⟩))
          go_ret
          exact ⟨ret_b (by first | rfl | (simp; done) | (simp; omega)), HB.out⟩
end Go.Proofs.Ytnnjmhfcalimeaa
