/- Several texts of mine in one: BkRow Bucket Bucket2. -/
import Derived.Test.YtmlafdehhbhbiaaRows
import Derived.Test.YtmlafdehhbhbiaaM2
import Derived.Test.YtmlafdehhbhbiaaM5
import Derived.Test.YtmlafdehhbhbiaaM1
import Derived.WalkKit
import Derived.WalkSpells
import Derived.WalkLawsBesides
import Derived.Lib.Hide
import Derived.IntWalk
import Derived.Lib.LazyBuf
import Derived.Laws.Externs
import Derived.Laws.NewBlocks
import Derived.Deep.LoopGhost
import Derived.Deep.RegionLaw
import Derived.Test.YtmlafdehhbhbiaaM6
import Derived.Deep.QuietTactic
import Derived.BigQuiet
import Derived.Deep.DeepCutAuto
import Derived.Deep.CutBlock
/- Package bucket's rows: slices.Clone, slices.Insert of one bucket, slices.Delete of one, walked: a contract for each. -/
namespace Go.Proofs.Ytmlafdehhbhbiaa
open Go.RowKit

set_option maxRecDepth 100000 in
theorem bk_zero (w : World) : (zeroValue 81).run Try.prog w = .ok (.agg #[.int .i64 0, .int .i64 0, .int .i64 0]) w := rfl
set_option maxRecDepth 100000 in
theorem bk_zeros : (Builtin.zeroCells (Value.agg #[.int .i64 0, .int .i64 0, .int .i64 0]).cells (0 + 1)).toList = [.int .i64 0, .int .i64 0, .int .i64 0] := by simp [Builtin.zeroCells, Value.cells, List.range_succ]
set_option maxRecDepth 100000 in
theorem bclone (v : Value) (n b0 : Nat) (g : Nat → Bk) (w : World) (h : OwnR be 3 w 81 b0 v n g) (hn : n ≤ 1000000) :
    Calls Try.prog 29 #[v] w fun e w' => ∃ v', e = .returned v' ∧ OwnR be 3 w' 81 w.heap.size v' n g ∧ Below w.heap.size w w' := by
  obtain ⟨i0, hi, hz0, hz1, hz2⟩ := info_parts bk_info
  have HS := Lib.hid h
  rcases h.2 with ⟨rfl, rfl⟩ | ⟨gb, cap, cur, rfl, _⟩
  · clear h
    have hop := fun w => run_eql_slice_nil (P := Try.prog) w 34 81 none 0 0 bk_type
    go_enter Try.func29, Try.ntmps29
    go_wp2_with (simp only [hop])
    go_ret
    exact ⟨_, rfl, OwnR.nil _ _ _ _ _ _, Below.refl _ _⟩
  · clear h
    have hop := fun w => run_eql_slice_nil (P := Try.prog) w 34 81 (some ⟨gb, 0, none⟩) n cap bk_type
    go_enter Try.func29, Try.ntmps29
    go_wp2_with (first | (simp only [hop]) | at_builtin; (refine wpList_app_row rfl (.tmp 5) (.tmp 6) rfl bk_type hi hz0 hz1 hz2 rfl (by decide) w w.heap.size b0 0 n cap _ _ [] _ rfl rfl (World.ownsRow_lit w #[] 0 (Nat.le_refl _) (by decide) rfl) (HS.out.alloc _) (rl_one be_one) (by unfold maxLen; omega) (by omega) ((Below.refl _ _).alloc (Nat.le_refl _) _) (by simp) ?_; intro v1 w1 ho1 hb1 hg1; rw [Nat.zero_add, List.nil_append] at ho1))
    go_ret
    exact ⟨_, rfl, ho1, hb1⟩
section
variable {w : World} {base n c X : Nat} {A : Option Addr} {g : Nat → Bk} {x : Bk}
set_option maxRecDepth 100000 in
/-- an own row, of which one bucket is left out by moving those behind it -/
theorem own_cut {b i : Nat} (o : OwnR be 3 w 81 base (.slice (some ⟨b, 0, none⟩) n c) n g) (hin : i < n) :
    ∃ L CS : List Value, w.heap[b]? = some (.cells L.toArray 81 (0, 0)) ∧ CS.length = (n - (i + 1)) * 3 ∧ (∀ j v, CS[j]? = some v → w.cell? ((⟨b, (i + 1) * 3, none⟩ : Addr).add j) = some v) ∧ (∀ v ∈ CS, v.oneCell' = true) ∧ i * 3 + CS.length ≤ L.length ∧
      ∀ w' : World, w'.heap[b]? = some (.cells (splice L (i * 3) CS).toArray 81 (0, 0)) → OwnR be 3 w' 81 base (.slice (some ⟨b, 0, none⟩) (n - 1) c) (n - 1) (delB g i) := by
  obtain ⟨T, hg, hbb, hnc, hcm, hl⟩ := o.whole
  have hlr := rl_length be_len g n
  have hsp := rl_split be g (show i + 1 ≤ n by omega)
  have hsp2 := rl_succ be g i
  obtain ⟨CS, hCS⟩ : ∃ CS, CS = rl be (fun j => g (i + 1 + j)) (n - (i + 1)) := ⟨_, rfl⟩
  have hcl : CS.length = (n - (i + 1)) * 3 := by rw [hCS]; exact rl_length be_len _ _
  rw [← hCS, hsp2] at hsp
  have hal : (rl be g i).length = i * 3 := rl_length be_len g i
  obtain ⟨L, hL⟩ : ∃ L, L = rl be g n ++ T := ⟨_, rfl⟩
  have hLl : L.length = c * 3 := by rw [hL]; exact hl
  rw [← hL] at hg
  have hfit : i * 3 + CS.length ≤ L.length := by rw [hcl, hLl]; omega
  refine ⟨L, CS, hg, hcl, fun j v hj => ?_, by rw [hCS]; exact rl_one be_one, hfit, fun w' hg' => ?_⟩
  · rw [Addr.add_lit, cell_of_row _ b _ _ _ (0, 0) hg]
    have hjl := (List.getElem?_eq_some_iff.1 hj).1
    have ha2 : (rl be g i ++ be (g i)).length = (i + 1) * 3 := by rw [List.length_append, hal, be_len]; omega
    rw [List.getElem?_toArray, hL, hsp, List.append_assoc, List.getElem?_append_right (by omega), ha2, Nat.add_sub_cancel_left, List.getElem?_append_left hjl]
    exact hj
  · have e : splice L (i * 3) CS = rl be (delB g i) (n - 1) ++ L.drop (i * 3 + CS.length) := by
      unfold delB
      rw [rl_del be g hin, show n - 1 - i = n - (i + 1) by omega, ← hCS]
      unfold splice
      rw [hL, hsp, List.append_assoc, List.append_assoc, ← hal, List.take_left, List.append_assoc]
    have hl2 := length_splice _ _ _ hfit
    rw [e] at hg' hl2
    exact OwnR.of_block be_len hg' hbb (by omega) hcm (hl2.trans hLl)
end
end Go.Proofs.Ytmlafdehhbhbiaa

/- Package bucket: rows with one bucket more or less of something, their sum; the register: a contract for each of its calls. -/
namespace Go.Proofs.Ytmlafdehhbhbiaa
open Go.RowKit

/-- rows in which a place has been found, or made -/
structure WAt (S : Int → Int → Int) (n : Nat) (c y a : Int) (m : Nat) (g : Nat → Bk) (p : Nat) : Prop where
  lt : p < m
  cls : (g p).c = c
  yr : (g p).y = y
  val : (g p).a = S c y
  le : m ≤ n + 1
  some : S c y + a ≠ 0 → BIs (upS S c y (S c y + a)) m (repB g p ⟨c, y, S c y + a⟩)
  none : S c y + a = 0 → BIs (upS S c y (S c y + a)) (m - 1) (delB (repB g p ⟨c, y, S c y + a⟩) p)
set_option maxRecDepth 100000 in
theorem del_rep (g : Nat → Bk) (p : Nat) (x : Bk) : delB (repB g p x) p = delB g p := by
  funext j
  unfold delB repB
  by_cases q : j < p
  · rw [if_pos q, if_pos q, if_neg (by omega)]
  · rw [if_neg q, if_neg q, if_neg (by omega)]
set_option maxRecDepth 100000 in
theorem rep_ins (g : Nat → Bk) (p : Nat) (x z : Bk) : repB (insB g p z) p x = insB g p x := by
  funext j
  unfold repB insB
  by_cases q : j = p
  · rw [if_pos q, if_neg (by omega), if_pos q]
  · rw [if_neg q]
    by_cases r : j < p
    · rw [if_pos r, if_pos r]
    · rw [if_neg r, if_neg r, if_neg q, if_neg q]
set_option maxRecDepth 100000 in
theorem del_ins (g : Nat → Bk) (p : Nat) (x : Bk) : delB (insB g p x) p = g := by
  funext j
  unfold delB insB
  by_cases q : j < p
  · rw [if_pos q, if_pos q]
  · rw [if_neg q, if_neg (by omega), if_neg (by omega), Nat.add_sub_cancel]
section
variable {S : Int → Int → Int} {n p : Nat} {g : Nat → Bk} {c y a : Int}
set_option maxRecDepth 100000 in
theorem wat_found (b : BIs S n g) (h : PAt n g ⟨c, y, 0⟩ p true) : WAt S n c y a n g p := by
  obtain ⟨h1, h2, h3⟩ := h.fd.1 rfl
  simp only at h2 h3
  subst h2 h3
  have hv := b.at h1
  refine ⟨h1, rfl, rfl, hv.symm, by omega, fun q => (bis_rep b h1 q).1, fun q => ?_⟩
  obtain ⟨n', rfl⟩ : ∃ n', n = n' + 1 := ⟨n - 1, by omega⟩
  rw [del_rep, q]
  exact (bis_del b h1).1
set_option maxRecDepth 100000 in
theorem wat_new (b : BIs S n g) (hok : BOk c y) (h : PAt n g ⟨c, y, 0⟩ p false) : WAt S n c y a (n + 1) (insB g p ⟨c, y, 0⟩) p := by
  have nf : ¬ (p < n ∧ (g p).c = c ∧ (g p).y = y) := fun q => by cases h.fd.2 q
  have h2 : ∀ j, p ≤ j → j < n → Bl c y (g j).c (g j).y := fun j h1 h2 => by
    rcases h.hi j h1 h2 with ⟨e1, e2⟩ | q
    · exfalso
      simp only at e1 e2
      rcases h.hi p (Nat.le_refl _) (by omega) with e | q
      · exact nf ⟨by omega, e⟩
      · simp only at q
        by_cases z : p = j
        · subst z; exact nf ⟨h2, e1, e2⟩
        · have := b.1.asc p j (by omega) h2
          rw [e1, e2] at this
          unfold Bl at *; omega
    · exact q
  have hS := (bis_ins b h.le hok (v := 1) (by omega) h.lo h2).2.2
  have hp : (insB g p ⟨c, y, 0⟩) p = ⟨c, y, 0⟩ := by unfold insB; rw [if_neg (by omega), if_pos rfl]
  refine ⟨by have := h.le; omega, by rw [hp], by rw [hp], by rw [hp, hS], by omega, fun q => ?_, fun q => ?_⟩
  · rw [rep_ins]; exact (bis_ins b h.le hok q h.lo h2).1
  · have e := upS_same S c y
    rw [hS] at e
    rw [del_rep, del_ins, q, e]; exact b
end
set_option maxRecDepth 100000 in
theorem sum_yes {S : Int → Int → Int} {m : Nat} {h : Nat → Bk} (b : BIs S m h) (h1 : ∀ c y, Mon (S c y)) (h2 : Mon (btot h m)) : SumIs (fun j => (h j).a) m (btot h m) true := .inl ⟨rfl, rfl, h2, fun _ hj => b.mon h1 hj⟩
set_option maxRecDepth 100000 in
theorem sum_bad {S : Int → Int → Int} {m : Nat} {h : Nat → Bk} {c y : Int} (b : BIs S m h) (h1 : ¬ Mon (S c y)) : SumIs (fun j => (h j).a) m 0 false := by
  obtain ⟨j, hj, e1, e2⟩ := b.has (c := c) (y := y) (fun e => h1 (by rw [e]; unfold Mon; omega))
  refine .inr ⟨rfl, rfl, .inl ⟨j, hj, ?_⟩⟩
  show ¬ Mon (h j).a
  rw [← b.at hj, e1, e2]; exact h1
set_option maxRecDepth 100000 in
theorem sum_big {m : Nat} {h : Nat → Bk} (h1 : ¬ Mon (btot h m)) : SumIs (fun j => (h j).a) m 0 false := .inr ⟨rfl, rfl, .inr h1⟩
set_option maxRecDepth 100000 in
theorem mny_yes (n : Int) (w : World) (h : Mon n) : Calls Try.prog 20 #[.int .i64 n] w fun e w' => e = .returned (.bool true) ∧ w = w' := money_yes n w h.1 h.2
set_option maxRecDepth 100000 in
theorem mny_no (n : Int) (w : World) (h : ¬ Mon n) : Calls Try.prog 20 #[.int .i64 n] w fun e w' => e = .returned (.bool false) ∧ w = w' := money_no n w (by unfold Mon at h; omega)
section
variable {w w1 : World} {O O1 : Nat → Nat} {base t t' sb n m : Nat} {v v' : Value} {g h : Nat → Bk} {S : Int → Int → Int}
end
end Go.Proofs.Ytmlafdehhbhbiaa

/- Package bucket's register: Move, Reclass, Get, Rows, Total, Clone, New: a contract for each, as the laws meet them. -/
namespace Go.Proofs.Ytmlafdehhbhbiaa
open Go.RowKit

section
variable {w0 w w1 : World} {O O1 : Nat → Nat} {base t t' sb n : Nat} {v : Value} {g : Nat → Bk} {S : Int → Int → Int}
/-- the program's register in a law's hands -/
abbrev NowP (w0 w : World) (O : Nat → Nat) (t sb : Nat) (S : Int → Int → Int) : Prop := NowB w0 w O t sb S
set_option maxRecDepth 100000 in
theorem NowP.below (h : NowP w0 w O t sb S) (k : Below w.heap.size w w1) : NowP w0 w1 O t sb S := NowB.below h k
set_option maxRecDepth 100000 in
theorem NowP.step (h : NowP w0 w O t sb S) (k : Step w0.heap.size O t' w O1 w1) (h1 : t ≠ t') (h2 : t' ≠ 0) : NowP w0 w1 O1 t sb S := NowB.step h k h1 h2
set_option maxRecDepth 100000 in
theorem NowP.told (h : NowP w0 w O t sb S) : ∃ n g, BInv S n g := NowB.told h
set_option maxRecDepth 100000 in
theorem pbnew (w0 w : World) (O : Nat → Nat) (fn : Fin0 w0.heap.size O w) (lo : Below w0.heap.size w0 w) (t : Nat) :
    Calls Try.prog 14 #[] w fun e w' => ∃ sb O', e = .returned (ptr sb) ∧ NowP w0 w' O' t sb (fun _ _ => 0) ∧ ∀ t', Step w0.heap.size O t' w O' w' := by
  have HF := Lib.hid fn
  have HL := Lib.hid lo
  clear fn lo
  go_enter Try.func14, Try.ntmps14
  go_wp2
  go_ret
  obtain ⟨a, b⟩ := nowb_new w0 w O HF.out HL.out 83 t
  exact ⟨_, _, rfl, a, b⟩
set_option maxRecDepth 100000 in
theorem pbrows (h : NowP w0 w O t sb S) {m : Nat} {g' : Nat → Bk} (b : BIs S m g') :
    Calls Try.prog 11 #[ptr sb] w fun e w' => ∃ A c, e = .returned (.slice A m c) ∧ m ≤ c ∧ c ≤ maxLen ∧ OwnR be 3 w' 81 w.heap.size (.slice A m c) m g' ∧ Below w.heap.size w w' := by
  obtain ⟨v, n, g, s, iv⟩ := h.st
  obtain ⟨rfl, he⟩ := iv.is.uniq b
  have hn := iv.le
  have c0 := s.hd.c0
  obtain ⟨A, cc, rfl, hc, hm, _, ha⟩ := s.at
  have C1 := Lib.hid (bclone _ n _ g w s.own (by omega))
  have HE := Lib.hid he
  clear s ha iv h b he
  go_enter Try.func11, Try.ntmps11
  go_wp2_with fail
  refine (C1.out).mono ?_
  rintro e w1 ⟨v1, rfl, ho, hb1⟩
  obtain ⟨A1, c1, rfl, h1, h2, _⟩ := ho.form
  go_wp2
  go_ret
  exact ⟨_, _, rfl, h1, h2, ho.ext HE.out, hb1⟩
set_option maxRecDepth 100000 in
theorem mon_up {c y x : Int} (hS : ∀ c y, Mon (S c y)) (hx : Mon x) : ∀ c' y', Mon (upS S c y x c' y') := fun c' y' => by
  unfold upS
  split
  · exact hx
  · exact hS c' y'
set_option maxRecDepth 100000 in
theorem merr_take {c y a e : Int} {m : Nat} {h : Nat → Bk} (iv : BInv S n g) (he : MErr S n (btot g n) c y a e) (h1 : BOk c y ∧ Mon a) (b1 : BIs (upS S c y (S c y + a)) m h) :
    (e = 6 ∧ ((∃ c' y', ¬ Mon (upS S c y (S c y + a) c' y')) ∨ ¬ Mon (btot h m))) ∨ (((∀ c' y', Mon (upS S c y (S c y + a) c' y')) ∧ Mon (btot h m)) ∧ ((e = 5 ∧ 12 < m) ∨ (e = 0 ∧ m ≤ 12))) := by
  obtain ⟨k1, k2⟩ := bis_count iv.is h1.1 b1
  have k3 : btot h m = btot g n + a := by omega
  rw [k3]
  cases he with
  | arg q => exact absurd h1 q
  | over _ q =>
    refine .inl ⟨rfl, ?_⟩
    by_cases z : Mon (S c y + a)
    · exact .inr fun z2 => q ⟨z, z2⟩
    · exact .inl ⟨c, y, by rw [upS_at]; exact z⟩
  | limit _ q r => exact .inr ⟨⟨mon_up iv.mon q.1, q.2⟩, .inl ⟨rfl, by omega⟩⟩
  | ok _ q r => exact .inr ⟨⟨mon_up iv.mon q.1, q.2⟩, .inr ⟨rfl, by omega⟩⟩
set_option maxRecDepth 100000 in
theorem rerr_take {c y c' y' a e : Int} {m1 m : Nat} {h1' h : Nat → Bk} (iv : BInv S n g) (he : RErr S n c y c' y' a e) (h1 : BOk c y ∧ BOk c' y' ∧ Mon a ∧ ¬ (c = c' ∧ y = y')) (b1 : BIs (upS S c y (S c y + -a)) m1 h1') (b2 : BIs (upS (upS S c y (S c y + -a)) c' y' (S c' y' + a)) m h) :
    (e = 6 ∧ ((∃ p q, ¬ Mon (upS (upS S c y (S c y + -a)) c' y' (S c' y' + a) p q)) ∨ ¬ Mon (btot h m))) ∨ (((∀ p q, Mon (upS (upS S c y (S c y + -a)) c' y' (S c' y' + a) p q)) ∧ Mon (btot h m)) ∧ ((e = 5 ∧ 12 < m) ∨ (e = 0 ∧ m ≤ 12))) := by
  obtain ⟨k1, k2⟩ := bis_count iv.is h1.1 b1
  have ne : upS S c y (S c y + -a) c' y' = S c' y' := if_neg fun z => h1.2.2.2 ⟨z.1.symm, z.2.symm⟩
  obtain ⟨k3, k4⟩ := bis_count b1 h1.2.1 b2
  rw [ne] at k3 k4
  have k5 : btot h m = btot g n := by omega
  have k6 : (m : Int) = cntR n (S c y) (S c' y') a := by
    unfold cntB at k1 k3
    unfold cntR cntB
    rw [show S c y - a = S c y + -a by omega]
    omega
  have e2 : upS (upS S c y (S c y + -a)) c' y' (S c' y' + a) c y = S c y - a := by
    have : upS (upS S c y (S c y + -a)) c' y' (S c' y' + a) c y = upS S c y (S c y + -a) c y := if_neg fun z => h1.2.2.2 z
    rw [this, upS_at]; omega
  have ya : ∀ {p q : Int}, Mon (S c y - a) ∧ Mon (S c' y' + a) → Mon (upS (upS S c y (S c y + -a)) c' y' (S c' y' + a) p q) := fun z => mon_up (mon_up iv.mon (by rw [show S c y + -a = S c y - a by omega]; exact z.1)) z.2 _ _
  rw [k5]
  cases he with
  | arg q => exact absurd h1 q
  | over _ q =>
    refine .inl ⟨rfl, .inl ?_⟩
    by_cases z : Mon (S c y - a)
    · exact ⟨c', y', by rw [upS_at]; exact fun z2 => q ⟨z, z2⟩⟩
    · exact ⟨c, y, by rw [e2]; exact z⟩
  | limit _ q r => exact .inr ⟨⟨fun _ _ => ya q, iv.all⟩, .inl ⟨rfl, by omega⟩⟩
  | ok _ q r => exact .inr ⟨⟨fun _ _ => ya q, iv.all⟩, .inr ⟨rfl, by omega⟩⟩
end
end Go.Proofs.Ytmlafdehhbhbiaa
