/- Package enact: Rate, Rows, Clone: a contract for each. -/
import Derived.Test.YtnhnimchjbhnfaaEnact
import Derived.WalkKit
import Derived.WalkSpells
import Derived.WalkLawsBesides
import Derived.Lib.Hide
import Derived.IntWalk
import Derived.Lib.LazyBuf
import Derived.Deep.LoopGhost
import Derived.Deep.QuietTactic
import Derived.BigQuiet
import Derived.Deep.RegionHeld3
import Derived.Deep.RegionLaw
namespace Go.Proofs.Ytnhnimchjbhnfaa
open Go.RowKit

section
variable {w w1 : World} {O O1 : Nat → Nat} {base t t' sb n : Nat} {v : Value} {R : Nat → Rt} {E : TypeId}
/-- the later one holds -/
def Sup (x b : Rt) : Prop := b.y < x.y ∨ (x.y = b.y ∧ b.p < x.p)
theorem esup (x b : Rt) (q : Bool) (hq : q = true ↔ Sup x b) (w : World) : Calls Try.prog 45 #[ra x, ra b] w fun e w' => e = .returned (.bool q) ∧ Below w.heap.size w w' := by
  obtain ⟨xj, xy, xr, xp⟩ := x
  obtain ⟨bj, b_y, br, bp⟩ := b
  have HQ := Lib.hid hq
  clear hq
  simp only [ra] at *
  by_cases h : xy = b_y
  · subst h
    have h1 : (xy != xy) = false := by simp
    go_enter Try.func45, Try.ntmps45
    go_wp2
    go_ret
    refine ⟨congrArg (fun b : Bool => Ending.returned (.bool b)) ?_, ((Below.refl _ _).alloc (Nat.le_refl _) _).alloc (by simp) _⟩
    have := HQ.out
    unfold Sup at this
    cases q <;> simp at this ⊢ <;> omega
  · have h1 : (xy != b_y) = true := by simpa using h
    go_enter Try.func45, Try.ntmps45
    go_wp2
    go_ret
    refine ⟨congrArg (fun b : Bool => Ending.returned (.bool b)) ?_, ((Below.refl _ _).alloc (Nat.le_refl _) _).alloc (by simp) _⟩
    have := HQ.out
    unfold Sup at this
    cases q <;> simp at this ⊢ <;> omega
/-- the best row so far lies in a block of the call's own -/
structure EBest (w wr : World) (R : Nat → Rt) (k : Nat) (j : ByteArray) (y p : Int) (f : Bool) (X : Rt) : Prop where
  best : (f = true ∧ ∃ i : Nat, BestAt R k j y p i ∧ X = R i) ∨ (f = false ∧ BestAt R k j y p (-1) ∧ X.r = 0)
  cell : ∀ i u, (re X)[i]? = some u → wr.cell? ⟨w.heap.size, i, none⟩ = some u
  frz : ∀ i, wr.frozen? ⟨w.heap.size, i, none⟩ = false
  lt : w.heap.size < wr.heap.size
  low : Below w.heap.size w wr
theorem EBest.moved {wr w2 : World} {k : Nat} {j : ByteArray} {y p : Int} {f : Bool} {X : Rt} (h : EBest w wr R k j y p f X) (b : Below wr.heap.size wr w2) {f' : Bool}
    (e : (f' = true ∧ ∃ i : Nat, BestAt R (k + 1) j y p i ∧ X = R i) ∨ (f' = false ∧ BestAt R (k + 1) j y p (-1) ∧ X.r = 0)) : EBest w w2 R (k + 1) j y p f' X :=
  ⟨e, fun i u hu => cell_keep (h.cell i u hu) b, fun i => (b.frozen (p := ⟨w.heap.size, i, none⟩) h.lt).trans (h.frz i), Nat.lt_of_lt_of_le h.lt b.size, h.low.trans (b.mono h.low.size)⟩
theorem EBest.over {wr w2 : World} {k : Nat} {j : ByteArray} {y p : Int} {f : Bool} {X : Rt} (h : EBest w wr R k j y p f X) (b : Below wr.heap.size wr w2) : EBest w w2 R k j y p f X :=
  ⟨h.best, fun i u hu => cell_keep (h.cell i u hu) b, fun i => (b.frozen (p := ⟨w.heap.size, i, none⟩) h.lt).trans (h.frz i), Nat.lt_of_lt_of_le h.lt b.size, h.low.trans (b.mono h.low.size)⟩
theorem EBest.skip {wr w2 : World} {k : Nat} {j : ByteArray} {y p : Int} {f : Bool} {X : Rt} (h : EBest w wr R k j y p f X) (hM : ¬ Mt (R k) j y p) (b : Below wr.heap.size wr w2) : EBest w w2 R (k + 1) j y p f X :=
  h.moved b (by
    rcases h.best with ⟨e, i, hi, hX⟩ | ⟨e, hi, hX⟩
    · exact .inl ⟨e, i, hi.skip hM, hX⟩
    · exact .inr ⟨e, hi.skip hM, hX⟩)
theorem EBest.stay {wr w2 : World} {k : Nat} {j : ByteArray} {y p : Int} {X : Rt} (h : EBest w wr R k j y p true X) (hs : ¬ Sup (R k) X) (b : Below wr.heap.size wr w2) : EBest w w2 R (k + 1) j y p true X :=
  h.moved b (by
    rcases h.best with ⟨e, i, hi, rfl⟩ | ⟨e, _⟩
    · exact .inl ⟨rfl, i, hi.keep (by unfold Sup at hs; unfold Le; omega), rfl⟩
    · cases e)
/-- the four cells of a rate, written -/
def set4 (w : World) (B : Nat) (x : Rt) : World := (((w.setCell ⟨B, 0, none⟩ (.string x.j)).setCell ⟨B, 1, none⟩ (.int .i64 x.y)).setCell ⟨B, 2, none⟩ (.int .i64 x.r)).setCell ⟨B, 3, none⟩ (.int .i64 x.p)
theorem set4_cell {w : World} {B : Nat} {X : Rt} (h : ∀ i u, (re X)[i]? = some u → w.cell? ⟨B, i, none⟩ = some u) (hf : ∀ i, w.frozen? ⟨B, i, none⟩ = false) (hl : B < w.heap.size) (x : Rt) : ∀ i u, (re x)[i]? = some u → (set4 w B x).cell? ⟨B, i, none⟩ = some u :=
  have hd : Head w (fun _ => 0) 0 B (re X) := ⟨h, hf, rfl, hl⟩
  ((((hd.set 0 (.string x.j) (by simp [re])).set 1 (.int .i64 x.y) (by simp [re])).set 2 (.int .i64 x.r) (by simp [re])).set 3 (.int .i64 x.p) (by simp [re])).cell
theorem EBest.take {wr : World} {k : Nat} {j : ByteArray} {y p : Int} {f : Bool} {X : Rt} (h : EBest w wr R k j y p f X) (hM : Mt (R k) j y p) (hs : f = true → Sup (R k) X) : EBest w (set4 wr w.heap.size (R k)) R (k + 1) j y p true (R k) := by
  refine ⟨.inl ⟨rfl, k, ?_, rfl⟩, set4_cell h.cell h.frz h.lt _, fun i => by simpa [set4] using h.frz i, by simpa [set4] using h.lt, ?_⟩
  · rcases h.best with ⟨e, i, hi, rfl⟩ | ⟨_, hi, _⟩
    · refine hi.take hM fun i' e' => ?_
      obtain rfl : i = i' := by omega
      have := hs e
      unfold Sup at this; unfold Le; omega
    · exact hi.take hM fun i e' => by omega
  · exact (((h.low.setCell (Nat.le_refl _) _).setCell (Nat.le_refl _) _).setCell (Nat.le_refl _) _).setCell (Nat.le_refl _) _
set_option maxHeartbeats 4000000 in
set_option maxRecDepth 100000 in
theorem erate_any (s : TabV 63 w O base t sb v n R) (j : ByteArray) (y p r : Int) (ok : Bool) (hk : Known R n j y p r ok) :
    Calls Try.prog 30 #[ptr sb, .string j, .int .i64 y, .int .i64 p] w fun e w' => e = .returned (.tuple #[.int .i64 r, .bool ok]) ∧ Below w.heap.size w w' := by
  have c0 := s.hd.c0
  have lt := s.hd.lt
  have hn := s.inv.le
  have HU := Lib.hid s.inv.uniq
  have HK := Lib.hid hk
  obtain ⟨A, c, rfl, hc, hm, _, ha⟩ := s.at
  have HA := Lib.hid ha
  clear s ha hk
  go_enter Try.func30, Try.ntmps30
  go_wp2
  go_loopg [11, 19] n (fun gh f i wr => ∃ (k : Nat) (fb : Bool) (X : Rt), k ≤ n ∧ gh = n - k ∧ i = .int .i64 k ∧ f = .bool fb ∧ EBest w wr R k j y p fb X)
  case atStart =>
    refine ⟨0, false, ⟨⟨#[]⟩, 0, 0, 0⟩, Nat.zero_le _, rfl, rfl, rfl, .inr ⟨rfl, BestAt.zero _ _ _ _, rfl⟩, ?_, ?_, ?_, ?_⟩
    · exact rec_lit w (re ⟨⟨#[]⟩, 0, 0, 0⟩) _ _ rfl
    · exact fun i => frozen_of_row _ w.heap.size i _ _ (heap_alloc_new w _)
    · simp
    · exact (Below.refl _ _).alloc (Nat.le_refl _) _
  case round =>
    obtain ⟨k, fb, X, hk, hgk, rfl, rfl, hbest⟩ := hrel
    have HGK := Lib.hid hgk
    have HB := Lib.hid hbest
    have b0 := hbest.cell 0 _ rfl
    have b1 := hbest.cell 1 _ rfl
    have b2 := hbest.cell 2 _ rfl
    have b3 := hbest.cell 3 _ rfl
    have bl := hbest.lt
    have f0 := hbest.frz 0
    have f1 := hbest.frz 1
    have f2 := hbest.frz 2
    have f3 := hbest.frz 3
    clear hgk hbest
    have bne : w.heap.size ≠ wr.heap.size := by omega
    by_cases hlt : k < n
    · obtain ⟨b, off, rfl, hb, c0, c1, c2, c3⟩ := (HA.out.below HB.out.low).four hlt
      by_cases hcc : Mt (R k) j y p
      rotate_left
      · have hM := Lib.hid hcc
        rcases (show ((R k).j.toList == j.toList) = false ∨ (((R k).j.toList == j.toList) = true ∧ y < (R k).y) ∨ (((R k).j.toList == j.toList) = true ∧ (R k).y ≤ y ∧ p < (R k).p) from by
            by_cases q1 : (R k).j = j
            · have q1' := (bytes_is _ _).2 q1
              by_cases q2 : (R k).y ≤ y
              · by_cases q3 : (R k).p ≤ p
                · exact absurd ⟨q1, q2, q3⟩ hM.out
                · exact .inr (.inr ⟨q1', q2, by omega⟩)
              · exact .inr (.inl ⟨q1', by omega⟩)
            · exact .inl (bytes_not q1)) with q1 | ⟨q1, q2⟩ | ⟨q1, q2, q3⟩
        all_goals
          clear hcc
          go_wp2
          go_roundg (n - (k + 1))
          case measure => have := HGK.out; omega
          case rel => exact ⟨k + 1, fb, X, by omega, rfl, by go_num, rfl, HB.out.skip hM.out ((Below.refl _ _).alloc (Nat.le_refl _) _)⟩
      · have hM := Lib.hid hcc
        obtain ⟨q1, q2, q3⟩ := hM.out
        replace q1 := (bytes_is _ _).2 q1
        clear hcc
        cases fb
        · go_wp2
          go_roundg (n - (k + 1))
          case measure => have := HGK.out; omega
          case rel => exact ⟨k + 1, true, R k, by omega, rfl, by go_num, rfl, (HB.out.take hM.out (fun e => Bool.noConfusion e)).over ((Below.refl _ _).alloc (Nat.le_refl _) _)⟩
        · by_cases hcc : Sup (R k) X
          rotate_left
          · have CS := Lib.hid fun w => esup (R k) X false ⟨fun q => Bool.noConfusion q, fun q => absurd q hcc⟩ w
            have HS := Lib.hid hcc
            clear hcc
            go_wp2_with (go_at_call 45; (refine (CS.out _).mono ?_); rintro e w5 ⟨rfl, hb5⟩; have B5 := Lib.hid hb5; clear hb5)
            go_roundg (n - (k + 1))
            case measure => have := HGK.out; omega
            case rel => exact ⟨k + 1, true, X, by omega, rfl, by go_num, rfl, HB.out.stay HS.out (((Below.refl _ _).alloc (Nat.le_refl _) _).trans (B5.out.mono (by simp)))⟩
          · have CS := Lib.hid fun w => esup (R k) X true ⟨fun _ => hcc, fun _ => rfl⟩ w
            have HS := Lib.hid hcc
            clear hcc
            have WB := Lib.hid ((Below.refl wr.heap.size wr).alloc (Nat.le_refl _) (.cells #[.string (R k).j, .int .i64 (R k).y, .int .i64 (R k).r, .int .i64 (R k).p] 63))
            have NL := Lib.hid (rec_lit wr (re (R k)) 63 wr.heap.size rfl)
            go_wp2_with (go_at_call 45; (refine (CS.out _).mono ?_); rintro e w5 ⟨rfl, hb5⟩; have k0 := cell_keep (NL.out 0 _ rfl) hb5; have k1 := cell_keep (NL.out 1 _ rfl) hb5; have k2 := cell_keep (NL.out 2 _ rfl) hb5; have k3 := cell_keep (NL.out 3 _ rfl) hb5; have hb6 := HB.out.over (WB.out.trans (hb5.mono WB.out.size)); have d0 := hb6.cell 0 _ rfl; have d1 := hb6.cell 1 _ rfl; have d2 := hb6.cell 2 _ rfl; have d3 := hb6.cell 3 _ rfl; have f0 := hb6.frz 0; have f1 := hb6.frz 1; have f2 := hb6.frz 2; have f3 := hb6.frz 3; have B5 := Lib.hid hb6; clear hb5 hb6)
            go_roundg (n - (k + 1))
            case measure => have := HGK.out; omega
            case rel => exact ⟨k + 1, true, R k, by omega, rfl, by go_num, rfl, B5.out.take hM.out (fun _ => HS.out)⟩
    · obtain rfl : k = n := by omega
      clear hlt
      go_wp2
      go_ret2
      refine ⟨?_, HB.out.low⟩
      rcases HB.out.best with ⟨rfl, i, hi, rfl⟩ | ⟨rfl, hi, e0⟩
      · obtain ⟨rfl, rfl⟩ := HK.out.uniq HU.out hi.some.2
        rfl
      · obtain ⟨rfl, rfl⟩ := HK.out.uniq HU.out hi.none
        exact congrArg (fun x => Ending.returned (.tuple #[.int .i64 x, .bool false])) e0
end
end Go.Proofs.Ytnhnimchjbhnfaa
