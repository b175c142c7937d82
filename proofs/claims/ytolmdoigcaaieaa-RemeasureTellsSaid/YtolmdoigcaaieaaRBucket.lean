/- The document's own register of buckets: Get, Total, Copy, set: a contract for each. -/
import Derived.Test.YtolmdoigcaaieaaRows
import Derived.Test.YtolmdoigcaaieaaRec
import Derived.Test.YtolmdoigcaaieaaBkMath2
import Derived.Test.YtolmdoigcaaieaaRef9
import Derived.WalkKit
import Derived.WalkSpells
import Derived.WalkLawsBesides
import Derived.Lib.Hide
import Derived.IntWalk
import Derived.Deep.LoopGhost
namespace Go.Proofs.Ytolmdoigcaaieaa
open Go.RowKit

/-- the three cells of a bucket -/
def be (x : Bk) : List Value := [.int .i64 x.c, .int .i64 x.y, .int .i64 x.a]
theorem be_len (x : Bk) : (be x).length = 3 := rfl
theorem be_one (x : Bk) : ∀ u ∈ be x, u.oneCell' = true := by
  intro u hu
  unfold be at hu
  simp only [List.mem_cons, List.not_mem_nil, or_false] at hu
  rcases hu with rfl | rfl | rfl <;> rfl
theorem bk_info : (Try.prog.info? 26).map (fun i => (i.zero, i.size, i.bytes)) = some (some (.agg #[.int .i64 0, .int .i64 0, .int .i64 0]), 3, 24) := by kernel_rfl
theorem bk_type : Try.prog.underlying 24 = some (.slice 26) := Try.underlying24
/-- a register behind block sb, whose mark is t: rows of buckets -/
structure BV (w : World) (O : Nat → Nat) (base t sb : Nat) (v : Value) (n : Nat) (g : Nat → Bk) : Prop where
  hd : Head w O t sb [v]
  row : RowT w O base t sb 26 3 v n (rl be g n)
section
variable {w w1 : World} {O O1 : Nat → Nat} {base t t' sb n : Nat} {v : Value} {g : Nat → Bk} {S : Int → Int → Int}
theorem BV.below (s : BV w O base t sb v n g) (k : Below w.heap.size w w1) : BV w1 O base t sb v n g := ⟨s.hd.below k, s.row.below k⟩
theorem BV.step (s : BV w O base t sb v n g) (k : Step base O t' w O1 w1) (h : t ≠ t') : BV w1 O1 base t sb v n g := ⟨s.hd.step k h, s.row.step k h⟩
theorem BV.own (s : BV w O base t sb v n g) : OwnR be 3 w 26 base v n g := s.row.own
theorem BV.new (fn : Fin0 base O w) (hb : base ≤ w.heap.size) (T : TypeId) (g : Nat → Bk) :
    BV (w.alloc (.cells #[.slice none 0 0] T)) (mark O t w.heap.size) base t w.heap.size (.slice none 0 0) 0 g ∧ ∀ t', Step base O t' w (mark O t w.heap.size) (w.alloc (.cells #[.slice none 0 0] T)) :=
  ⟨⟨Head.new w O t _ T, RowT.nil _ _ _ _ _ _ _⟩, fun t' => Step.made fn hb _ t'⟩
theorem BV.at (s : BV w O base t sb v n g) : ∃ A c, v = .slice A n c ∧ n ≤ c ∧ c ≤ maxLen ∧ (A = none → n = 0 ∧ c = 0) ∧ AtR be 3 w A n g := s.own.at be_len
theorem AtR.three {A : Option Addr} (r : AtR be 3 w A n g) {k : Nat} (hk : k < n) : ∃ b off, A = Option.some ⟨b, off, none⟩ ∧ b < w.heap.size ∧ w.cell? ⟨b, off + k * 3, none⟩ = Option.some (.int .i64 (g k).c) ∧ w.cell? ⟨b, off + k * 3 + 1, none⟩ = Option.some (.int .i64 (g k).y) ∧ w.cell? ⟨b, off + k * 3 + 2, none⟩ = Option.some (.int .i64 (g k).a) := by
  obtain ⟨b, off, e, hb, hc⟩ := r.some (by omega)
  exact ⟨b, off, e, hb, hc k hk 0 _ rfl, hc k hk 1 _ rfl, hc k hk 2 _ rfl⟩
theorem rbget (s : BV w O base t sb v n g) (b : BIs S n g) (hn : n ≤ 1000) (c y : Int) :
    Calls Try.prog 23 #[ptr sb, .int .i64 c, .int .i64 y] w fun e w' => e = .returned (.int .i64 (S c y)) ∧ Below w.heap.size w w' := by
  have c0 := s.hd.c0
  obtain ⟨A, cc, rfl, hc, hm, _, ha⟩ := s.at
  have HA := Lib.hid ha
  have HB := Lib.hid b
  obtain ⟨V, hV⟩ : ∃ V, S c y = V := ⟨_, rfl⟩
  rw [hV]
  have HV := Lib.hid hV
  clear s ha b hV
  go_enter Try.func23, Try.ntmps23
  go_wp2
  go_loopg [14] n (fun gh i wr => ∃ k : Nat, k ≤ n ∧ gh = n - k ∧ i = .int .i64 k ∧ (∀ j, j < k → ¬ ((g j).c = c ∧ (g j).y = y)) ∧ Below w.heap.size w wr)
  case atStart => exact ⟨0, Nat.zero_le _, rfl, rfl, fun j hj => absurd hj (Nat.not_lt_zero _), Below.refl _ _⟩
  case round =>
    obtain ⟨k, hk, hgk, rfl, h0, hbw⟩ := hrel
    have HGK := Lib.hid hgk
    have HW := Lib.hid hbw
    have H0 := Lib.hid h0
    clear hgk hbw h0
    by_cases hlt : k < n
    · obtain ⟨b, off, rfl, hb, c0, c1, c2⟩ := (HA.out.below HW.out).three hlt
      by_cases hcc : (g k).c = c ∧ (g k).y = y
      · have HE : Hid ((g k).a = V) := Lib.hid (by rw [← HV.out, ← HB.out.at hlt, hcc.1, hcc.2])
        have p1 : ((g k).c == c) = true := by simpa using hcc.1
        have p2 : ((g k).y == y) = true := by simpa using hcc.2
        clear hcc
        go_wp2
        go_ret
        exact ⟨congrArg (fun x => Ending.returned (.int .i64 x)) HE.out, HW.out.alloc HW.out.size _⟩
      · have HN := Lib.hid hcc
        rcases (show ((g k).c == c) = false ∨ (((g k).c == c) = true ∧ ((g k).y == y) = false) from by
            by_cases q1 : (g k).c = c
            · exact .inr ⟨by simpa using q1, by simpa using fun q2 => hcc ⟨q1, q2⟩⟩
            · exact .inl (by simpa using q1)) with p1 | ⟨p1, p2⟩
        all_goals
          clear hcc
          go_wp2
          go_roundg (n - (k + 1))
          case measure => have := HGK.out; omega
          case rel => exact ⟨k + 1, by omega, rfl, by go_num, fun j hj => by
              by_cases e : j = k
              · rw [e]; exact HN.out
              · exact H0.out j (by omega), HW.out.alloc HW.out.size _⟩
    · obtain rfl : k = n := by omega
      clear hlt
      have HE : Hid (0 = V) := Lib.hid (by rw [← HV.out, ← HB.out.2, bget_none H0.out])
      go_wp2
      go_ret
      exact ⟨congrArg (fun x => Ending.returned (.int .i64 x)) HE.out, HW.out⟩
theorem rbtotal (s : BV w O base t sb v n g) (hn : n ≤ 1000) (hg : ∀ j, j < n → Mon (g j).a) :
    Calls Try.prog 37 #[ptr sb] w fun e w' => e = .returned (.int .i64 (btot g n)) ∧ Below w.heap.size w w' := by
  have c0 := s.hd.c0
  obtain ⟨A, cc, rfl, hc, hm, _, ha⟩ := s.at
  have HA := Lib.hid ha
  have HG := Lib.hid hg
  clear s ha hg
  go_enter Try.func37, Try.ntmps37
  go_wp2
  go_loopg [3, 11] n (fun gh x i wr => ∃ k : Nat, k ≤ n ∧ gh = n - k ∧ i = .int .i64 k ∧ x = .int .i64 (btot g k) ∧ Below w.heap.size w wr)
  case atStart => exact ⟨0, Nat.zero_le _, rfl, rfl, rfl, Below.refl _ _⟩
  case round =>
    obtain ⟨k, hk, hgk, rfl, rfl, hbw⟩ := hrel
    have HGK := Lib.hid hgk
    have HW := Lib.hid hbw
    have tb := tot_bd (fun j => (g j).a) k fun j hj => HG.out j (by omega)
    obtain ⟨T, hT⟩ : ∃ T, btot g k = T := ⟨_, rfl⟩
    rw [show tot (fun j => (g j).a) k = T from hT] at tb
    rw [hT]
    have HT := Lib.hid hT
    clear hgk hbw hT
    by_cases hlt : k < n
    · obtain ⟨b, off, rfl, hb, c0, c1, c2⟩ := (HA.out.below HW.out).three hlt
      have hx := HG.out k hlt
      obtain ⟨x, hx'⟩ : ∃ x, (g k).a = x := ⟨_, rfl⟩
      rw [hx'] at c2 hx
      have HX := Lib.hid hx'
      clear hx'
      unfold Mon at hx
      obtain ⟨x1, x2⟩ := hx
      obtain ⟨t1, t2⟩ := tb
      have ew : IntKind.i64.wrap (T + x) = T + x := IntWalk.i64_in _ (by omega)
      clear t1 t2
      go_wp2
      go_roundg (n - (k + 1))
      case measure => have := HGK.out; omega
      case rel => exact ⟨k + 1, by omega, rfl, by go_num, by rw [← HT.out, ← HX.out]; rfl, HW.out.alloc HW.out.size _⟩
    · obtain rfl : k = n := by omega
      clear hlt tb
      go_wp2
      go_ret
      exact ⟨congrArg (fun x => Ending.returned (.int .i64 x)) HT.out.symm, HW.out⟩
theorem rbcopy (s : BV w O base t sb v n g) (hn : n ≤ 1000) {base2 : Nat} {O2 : Nat → Nat} (fn : Fin0 base2 O2 w) (hb : base2 ≤ w.heap.size) (t' : Nat) :
    Calls Try.prog 38 #[ptr sb] w fun e w' => ∃ v' sb' O', e = .returned (ptr sb') ∧ BV w' O' base2 t' sb' v' n g ∧ w.heap.size ≤ sb' ∧ ∀ t2, Step base2 O2 t2 w O' w' := by
  obtain ⟨i0, hi, hz0, hz1, hz2⟩ := info_parts bk_info
  have c0 := s.hd.c0
  obtain ⟨A, cc, rfl, hc, hm, _⟩ := s.row.form
  have HS := Lib.hid s
  have HF := Lib.hid fn
  clear s fn
  go_enter Try.func38, Try.ntmps38
  go_wp2_with (at_builtin; (refine wpList_app_row rfl (.const (.slice none 0 0)) (.tmp 6) rfl bk_type hi hz0 hz1 hz2 rfl (by decide) w w.heap.size base 0 n cc _ _ [] _ rfl rfl (World.ownsRow_nil _ _ _ _) HS.out.row.own (rl_one be_one) (by unfold maxLen; omega) (by omega) (Below.refl _ _) (Nat.le_refl _) ?_; intro v1 w5 ho1 hb1 hg1; rw [Nat.zero_add, List.nil_append] at ho1; obtain ⟨A5, c5, rfl, _, _, _⟩ := own_form ho1; have HO5 := Lib.hid ho1; have K4 := Lib.hid hb1; clear ho1 hb1 hg1))
  go_ret
  obtain ⟨O1, m1, st1⟩ := fresh_marked HF.out hb K4.out HO5.out t'
  have z5 : base2 ≤ w5.heap.size := Nat.le_trans hb K4.out.size
  refine ⟨_, w5.heap.size, mark O1 t' w5.heap.size, rfl, ⟨Head.new w5 O1 t' _ _, ⟨own_mono (World.ownsRow.alloc HO5.out _) hb, fun b hb => ?_⟩⟩, K4.out.size, fun t2 => (st1 t2).trans (Step.made (st1 t2).fin z5 _ t2)⟩
  have := m1 b hb
  exact ⟨(mark_ne _ _ (by omega)).trans this.1, by omega⟩
end
end Go.Proofs.Ytolmdoigcaaieaa
