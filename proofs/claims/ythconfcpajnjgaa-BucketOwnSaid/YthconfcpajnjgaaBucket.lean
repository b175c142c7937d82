/- Package bucket: rows with one bucket more or less of something, their sum; the register: a contract for each of its calls. -/
import Derived.Test.YthconfcpajnjgaaRows
import Derived.Test.YthconfcpajnjgaaBkCmp
import Derived.Test.YthconfcpajnjgaaBkRow
import Derived.Test.YthconfcpajnjgaaSumLoop
import Derived.Test.YthconfcpajnjgaaRBucket5
import Derived.WalkKit
import Derived.WalkSpells
import Derived.WalkLawsBesides
import Derived.Lib.Hide
import Derived.IntWalk
import Derived.Deep.LoopGhost
import Derived.Deep.QuietTactic
import Derived.BigQuiet
import Derived.Deep.DeepCutAuto
import Derived.Deep.CutBlock
namespace Go.Proofs.Ythconfcpajnjgaa
open Go.RowKit

/-- a bucket put in wherever it belongs -/
theorem binsert {w : World} {base n c X i : Nat} {A : Option Addr} {g : Nat → Bk} {x : Bk} (o : OwnR be 3 w 38 base (.slice A n c) n g) (hX : w.heap[X]? = some (.cells (be x).toArray 38 (0, 0))) (hne : ∀ b, A = some ⟨b, 0, none⟩ → X ≠ b) (hn : n ≤ 1000) (hb : base ≤ w.heap.size) (hin : i ≤ n) :
    Calls Try.prog 36 #[.slice A n c, .int .i64 i, .slice (some ⟨X, 0, none⟩) 1 1] w fun e w' => ∃ b c', e = .returned (.slice (some ⟨b, 0, none⟩) (n + 1) c') ∧ OwnR be 3 w' 38 base (.slice (some ⟨b, 0, none⟩) (n + 1) c') (n + 1) (insB g i x) ∧ Below base w w' := by
  by_cases q : i = n
  · rw [q]; exact binsert_end o hX hn hb
  · obtain ⟨b, c', e, h1, h2⟩ := own_some o (by omega)
    injection e with e1 _ e3
    subst e1 e3
    by_cases r : n + 1 ≤ c
    · exact binsert_in o hX (hne b rfl) hn (by omega) r
    · exact binsert_grow o hX hn hb (by omega) (by omega)
theorem bfind (A : Option Addr) (n c : Nat) (g : Nat → Bk) (cl y : Int) (w : World) (hr : AtR be 3 w A n g) (hb : BRow n g) (hn : n ≤ 1000000) (hnc : n ≤ c) :
    Calls Try.prog 30 #[.slice A n c, .int .i64 cl, .int .i64 y] w fun e w' => ∃ (p : Nat) (f : Bool), e = .returned (.tuple #[.int .i64 p, .bool f]) ∧ PAt n g ⟨cl, y, 0⟩ p f ∧ Below w.heap.size w w' := by
  have C1 := Lib.hid (bsearch_any A n c g ⟨cl, y, 0⟩ w hr hb hn hnc)
  clear hr hb
  go_enter Try.func30, Try.ntmps30
  go_wp2_with (go_at_call 39; (refine (C1.out).mono ?_); rintro e w' ⟨p, f, rfl, hp, hb⟩)
  go_ret2
  exact ⟨p, f, rfl, hp, hb⟩
/-- rows in which a place has been found, or made -/
structure WAt (S : Int → Int → Int) (n : Nat) (c y a : Int) (m : Nat) (g : Nat → Bk) (p : Nat) : Prop where
  lt : p < m
  cls : (g p).c = c
  yr : (g p).y = y
  val : (g p).a = S c y
  le : m ≤ n + 1
  some : S c y + a ≠ 0 → BIs (upS S c y (S c y + a)) m (repB g p ⟨c, y, S c y + a⟩)
  none : S c y + a = 0 → BIs (upS S c y (S c y + a)) (m - 1) (delB (repB g p ⟨c, y, S c y + a⟩) p)
theorem del_rep (g : Nat → Bk) (p : Nat) (x : Bk) : delB (repB g p x) p = delB g p := by
  funext j
  unfold delB repB
  by_cases q : j < p
  · rw [if_pos q, if_pos q, if_neg (by omega)]
  · rw [if_neg q, if_neg q, if_neg (by omega)]
theorem rep_ins (g : Nat → Bk) (p : Nat) (x z : Bk) : repB (insB g p z) p x = insB g p x := by
  funext j
  unfold repB insB
  by_cases q : j = p
  · rw [if_pos q, if_neg (by omega), if_pos q]
  · rw [if_neg q]
    by_cases r : j < p
    · rw [if_pos r, if_pos r]
    · rw [if_neg r, if_neg r, if_neg q, if_neg q]
theorem del_ins (g : Nat → Bk) (p : Nat) (x : Bk) : delB (insB g p x) p = g := by
  funext j
  unfold delB insB
  by_cases q : j < p
  · rw [if_pos q, if_pos q]
  · rw [if_neg q, if_neg (by omega), if_neg (by omega), Nat.add_sub_cancel]
section
variable {S : Int → Int → Int} {n p : Nat} {g : Nat → Bk} {c y a : Int}
theorem wat_found (b : BIs S n g) (h : PAt n g ⟨c, y, 0⟩ p true) : WAt S n c y a n g p := by
  obtain ⟨h1, h2, h3⟩ := h.fd.1 rfl
  simp only at h2 h3
  subst h2 h3
  have hv := b.at h1
  refine ⟨h1, rfl, rfl, hv.symm, by omega, fun q => (bis_rep b h1 q).1, fun q => ?_⟩
  obtain ⟨n', rfl⟩ : ∃ n', n = n' + 1 := ⟨n - 1, by omega⟩
  rw [del_rep, q]
  exact (bis_del b h1).1
theorem wat_new (b : BIs S n g) (hok : BOk c y) (h : PAt n g ⟨c, y, 0⟩ p false) : WAt S n c y a (n + 1) (insB g p ⟨c, y, 0⟩) p := by
  have nf : ¬ (p < n ∧ (g p).c = c ∧ (g p).y = y) := fun q => by cases h.fd.2 q
  have h2 : ∀ j, p ≤ j → j < n → Bl c y (g j).c (g j).y := fun j h1 h2 => by
    rcases h.hi j h1 h2 with ⟨e1, e2⟩ | q
    · exfalso
      simp only at e1 e2
      rcases h.hi p (Nat.le_refl _) (by omega) with e | q
      · exact nf ⟨by omega, e⟩
      · simp only at q
        by_cases z : p = j
        · subst z; exact nf ⟨h2, e1, e2⟩
        · have := b.1.asc p j (by omega) h2
          rw [e1, e2] at this
          unfold Bl at *; omega
    · exact q
  have hS := (bis_ins b h.le hok (v := 1) (by omega) h.lo h2).2.2
  have hp : (insB g p ⟨c, y, 0⟩) p = ⟨c, y, 0⟩ := by unfold insB; rw [if_neg (by omega), if_pos rfl]
  refine ⟨by have := h.le; omega, by rw [hp], by rw [hp], by rw [hp, hS], by omega, fun q => ?_, fun q => ?_⟩
  · rw [rep_ins]; exact (bis_ins b h.le hok q h.lo h2).1
  · have e := upS_same S c y
    rw [hS] at e
    rw [del_rep, del_ins, q, e]; exact b
end
set_option maxHeartbeats 4000000 in
set_option maxRecDepth 100000 in
theorem bwith {w : World} {b0 n : Nat} {v : Value} {g : Nat → Bk} {S : Int → Int → Int} (o : OwnR be 3 w 38 b0 v n g) (b : BIs S n g) (hn : n ≤ 500) (c y a : Int) (hok : BOk c y) (h1 : -1000000000000000 ≤ S c y) (h2 : S c y ≤ 1000000000000000) (h3 : -1000000000000000 ≤ a) (h4 : a ≤ 1000000000000000) :
    Calls Try.prog 28 #[v, .int .i64 c, .int .i64 y, .int .i64 a] w fun e w' => ∃ v' m h, e = .returned v' ∧ OwnR be 3 w' 38 w.heap.size v' m h ∧ BIs (upS S c y (S c y + a)) m h ∧ m ≤ n + 1 ∧ Below w.heap.size w w' := by
  have HBS := Lib.hid b
  have OK := Lib.hid hok
  have C1 := Lib.hid (bclone v n b0 g w o (by omega))
  clear o b hok
  go_enter Try.func28, Try.ntmps28
  go_wp2_with fail
  refine (C1.out).mono ?_
  rintro e w1 ⟨v1, rfl, ho1, hb1⟩
  obtain ⟨A1, c1, rfl, hc1, hm1, _, hat⟩ := ho1.at be_len
  have O1 := Lib.hid ho1
  have B1 := Lib.hid hb1
  have C2 := Lib.hid (bfind A1 n c1 g c y w1 hat HBS.out.1 (by omega) hc1)
  clear ho1 hb1 hat C1
  go_wp2_with fail
  refine (C2.out).mono ?_
  rintro e w2 ⟨p, f, rfl, hp, hb2⟩
  have O2 := Lib.hid (O1.out.below hb2)
  have B2 := Lib.hid (B1.out.trans (hb2.mono B1.out.size))
  have HP := Lib.hid hp
  have hpn := hp.le
  clear hp hb2 C2 O1
  have hpi : (0 : Int) ≤ (p : Int) := by omega
  go_upto_if 22 with fail
  go_cut [9] (fun s9 wx => ∃ (m : Nat) (g1 : Nat → Bk) (b c' : Nat), s9 = .slice (some ⟨b, 0, none⟩) m c' ∧ WAt S n c y a m g1 p ∧ OwnR be 3 wx 38 w.heap.size (.slice (some ⟨b, 0, none⟩) m c') m g1 ∧ Below w.heap.size w wx)
  case first =>
    cases f
    · have X0 : Hid ((w2.alloc (.cells #[.int .i64 c, .int .i64 y, .int .i64 0] 38)).heap[w2.heap.size]? = some (.cells (be ⟨c, y, 0⟩).toArray 38 (0, 0))) := Lib.hid (heap_alloc_new w2 _)
      have C3 := Lib.hid (binsert (O2.out.alloc _) X0.out (fun b hb => by have := (OwnR.lt O2.out b (by rw [hb]; rfl)).2; omega) (by omega) (Nat.le_trans B2.out.size (by simp)) hpn)
      go_wp2_with (go_at_call 36; (refine (C3.out).mono ?_); rintro e w3 ⟨b, c', rfl, ho3, hb3⟩)
      go_meet
      exact ⟨_, _, b, c', rfl, wat_new HBS.out OK.out HP.out, ho3, (B2.out.alloc B2.out.size _).trans hb3⟩
    · have hw := wat_found (a := a) HBS.out HP.out
      obtain ⟨b, c', e, _, _⟩ := own_some O2.out (by have := hw.lt; omega)
      injection e with e1 _ e3
      subst e1 e3
      have HW := Lib.hid hw
      clear hw
      go_wp2
      go_meet
      exact ⟨n, g, b, c1, rfl, HW.out, O2.out, B2.out⟩
  case rest =>
    obtain ⟨m, g1, b, c', rfl, hw, ho3, hb3⟩ := hcut
    have hm := hw.lt
    have hmn := hw.le
    obtain ⟨_, _, e, _, _, _, _, hcell, hfz⟩ := ho3.some be_len (by omega)
    injection e with e1 _ e3
    injection e1 with e1
    injection e1 with e1
    subst e1 e3
    have k2 := hcell p hm 2 _ rfl
    have f2 := hfz (p * 3 + 2)
    rw [hw.val] at k2
    obtain ⟨V, eV⟩ : ∃ V, S c y = V := ⟨_, rfl⟩
    rw [eV] at k2 h1 h2
    have ew : IntKind.i64.wrap (V + a) = V + a := IntWalk.i64_in _ (by omega)
    have hpm : (p : Int) < (m : Int) := by omega
    have os := ho3.setc be_len p 2 ⟨c, y, V + a⟩ (.int .i64 (V + a)) hm (by decide) (fun d hd => by
      match d, hd with
      | 0, _ => simp [be, hw.cls]
      | 1, _ => simp [be, hw.yr]
      | 2, h => exact absurd rfl h
      | d + 3, _ => simp [be]) rfl
    have OS := Lib.hid os
    have k3 : (wc.setCell ⟨b, p * 3 + 2, none⟩ (.int .i64 (V + a))).cell? ⟨b, p * 3 + 2, none⟩ = some (.int .i64 (V + a)) := World.cell?_setCell_same _ _ _ k2
    have hbb := (ho3.lt b rfl).1
    have B4 : Hid (Below w.heap.size w (wc.setCell ⟨b, p * 3 + 2, none⟩ (.int .i64 (V + a)))) := Lib.hid (hb3.setCell hbb _)
    have HW := Lib.hid hw
    have EV := Lib.hid eV
    clear hcell hfz ho3 hb3 hw eV os
    by_cases hz : V + a = 0
    · have hz' := Lib.hid hz
      have hzb : (V + a == 0) = true := by simpa using hz
      have hi1 : IntKind.i64.wrap ((p : Int) + 1) = (p : Int) + 1 := IntWalk.i64_in _ (by omega)
      have C4 := Lib.hid (bdelete OS.out (by omega) hm)
      clear hz
      go_wp2_with (go_at_call 37; (refine (C4.out).mono ?_); rintro e w5 ⟨rfl, ho5, hb5⟩; have HO5 := Lib.hid ho5; have HB5 := Lib.hid (B4.out.trans hb5); clear ho5 hb5)
      go_ret
      have hb := HW.out.none (by rw [EV.out]; exact hz'.out)
      rw [EV.out] at hb
      exact ⟨_, _, _, rfl, HO5.out, (by rw [EV.out]; exact hb), by omega, HB5.out⟩
    · have hzb : (V + a == 0) = false := by simpa using hz
      have hb := HW.out.some (by rw [EV.out]; exact hz)
      rw [EV.out] at hb
      have HB := Lib.hid hb
      clear hz hb
      go_wp2
      go_ret
      exact ⟨_, rfl, _, _, OS.out, (by rw [EV.out]; exact HB.out), by omega, B4.out⟩
theorem sum_yes {S : Int → Int → Int} {m : Nat} {h : Nat → Bk} (b : BIs S m h) (h1 : ∀ c y, Mon (S c y)) (h2 : Mon (btot h m)) : SumIs (fun j => (h j).a) m (btot h m) true := .inl ⟨rfl, rfl, h2, fun _ hj => b.mon h1 hj⟩
theorem sum_bad {S : Int → Int → Int} {m : Nat} {h : Nat → Bk} {c y : Int} (b : BIs S m h) (h1 : ¬ Mon (S c y)) : SumIs (fun j => (h j).a) m 0 false := by
  obtain ⟨j, hj, e1, e2⟩ := b.has (c := c) (y := y) (fun e => h1 (by rw [e]; unfold Mon; omega))
  refine .inr ⟨rfl, rfl, .inl ⟨j, hj, ?_⟩⟩
  show ¬ Mon (h j).a
  rw [← b.at hj, e1, e2]; exact h1
theorem sum_big {m : Nat} {h : Nat → Bk} (h1 : ¬ Mon (btot h m)) : SumIs (fun j => (h j).a) m 0 false := .inr ⟨rfl, rfl, .inr h1⟩
set_option maxHeartbeats 4000000 in
set_option maxRecDepth 100000 in
theorem bsum {w : World} {A : Option Addr} {n c : Nat} {g : Nat → Bk} (hr : AtR be 3 w A n g) (hn : n ≤ 1000) (r : Int) (ok : Bool) (HR : Hid (SumIs (fun j => (g j).a) n r ok)) :
    Calls Try.prog 29 #[.slice A n c] w fun e w' => e = .returned (.tuple #[.int .i64 r, .bool ok]) ∧ Below w.heap.size w w' := by
  have HA := Lib.hid hr
  have hmk := run_make_row' (P := Try.prog) 44 3 (.int .i64 0) 8 Try.underlying44 int_info rfl .i64 .i64 n (by omega) (by omega)
  clear hr
  go_enter Try.func29, Try.ntmps29
  go_wp2
  go_loopg [12] n (fun gh i wr => ∃ (k : Nat) (f : Nat → Int), k ≤ n ∧ gh = n - k ∧ i = .int .i64 k ∧ (∀ j, j < k → f j = (g j).a) ∧ Row wr w.heap.size n f ∧ Below w.heap.size w wr)
  case atStart => exact ⟨0, fun _ => 0, Nat.zero_le _, rfl, rfl, fun j hj => absurd hj (Nat.not_lt_zero _), made_row w n _, (Below.refl _ _).alloc (Nat.le_refl _) _⟩
  case round =>
    obtain ⟨k, f, hk, hgk, rfl, hf, hrow, hbw⟩ := hrel
    have HGK := Lib.hid hgk
    have HF := Lib.hid hf
    have HRW := Lib.hid hrow
    have HB := Lib.hid hbw
    clear hgk hf hrow hbw
    by_cases hlt : k < n
    · obtain ⟨b, off, rfl, hb, c0, c1, c2⟩ := (HA.out.below HB.out).three hlt
      have hkn : (k : Int) < (n : Int) := by omega
      have hr0 := HRW.out.1
      obtain ⟨q1, q2⟩ := HRW.out.2 k hlt
      have hne : w.heap.size ≠ wr.heap.size := by omega
      go_wp2
      go_roundg (n - (k + 1))
      case measure => have := HGK.out; omega
      case rel => exact ⟨k + 1, (fun j => if j = k then (g k).a else f j), by omega, rfl, by go_num, (fun j hj => by
            by_cases e : j = k
            · subst e; exact if_pos rfl
            · exact (if_neg e).trans (HF.out j (by omega))), (HRW.out.set hlt (g k).a).below ((Below.refl _ _).alloc (Nat.le_refl _) _), (HB.out.setCell (Nat.le_refl _) _).alloc (by simpa using HB.out.size) _⟩
    · obtain rfl : k = n := by omega
      clear hlt
      have C1 := Lib.hid (sum_some w.heap.size 0 k k f r ok wr HRW.out.1 HRW.out.hid (by omega) (Nat.le_refl _) (Lib.hid (by
        have := HR.out
        unfold SumIs at this ⊢
        rw [tot_ext k HF.out] 
        rcases this with ⟨a1, a2, a3, a4⟩ | ⟨a1, a2, a3⟩
        · exact .inl ⟨a1, a2, a3, fun j hj => by rw [HF.out j hj]; exact a4 j hj⟩
        · refine .inr ⟨a1, a2, a3.imp (fun ⟨j, hj, q⟩ => ⟨j, hj, by rw [HF.out j hj]; exact q⟩) id⟩)))
      go_wp2_with (go_at_call 38; (refine (C1.out).mono ?_); rintro e w5 ⟨rfl, hb5⟩; have HB5 := Lib.hid (HB.out.trans (hb5.mono HB.out.size)); clear hb5)
      go_ret2
      exact ⟨rfl, HB5.out⟩
theorem bright_yes (c y : Int) (w : World) (h : BOk c y) : Calls Try.prog 25 #[.int .i64 c, .int .i64 y] w fun e w' => e = .returned (.bool true) ∧ w = w' := by
  obtain ⟨h1, h2, h3, h4⟩ := h
  go_enter Try.func25, Try.ntmps25
  go_wp2
  all_goals
    go_ret
    exact ⟨ret_b (by first | rfl | (simp; omega)), rfl⟩
theorem bright_no (c y : Int) (w : World) (h : ¬ BOk c y) : Calls Try.prog 25 #[.int .i64 c, .int .i64 y] w fun e w' => e = .returned (.bool false) ∧ w = w' := by
  unfold BOk at h
  rcases (show c < 1 ∨ (1 ≤ c ∧ 9 < c) ∨ (1 ≤ c ∧ c ≤ 9 ∧ y < 0) ∨ (1 ≤ c ∧ c ≤ 9 ∧ 0 ≤ y ∧ 99 < y) by omega) with q | ⟨q1, q2⟩ | ⟨q1, q2, q3⟩ | ⟨q1, q2, q3, q4⟩
  all_goals
    clear h
    go_enter Try.func25, Try.ntmps25
    go_wp2
    all_goals
      go_ret
      exact ⟨ret_b (by first | rfl | (simp; omega)), rfl⟩
theorem mny_yes (n : Int) (w : World) (h : Mon n) : Calls Try.prog 26 #[.int .i64 n] w fun e w' => e = .returned (.bool true) ∧ w = w' := money_yes n w h.1 h.2
theorem mny_no (n : Int) (w : World) (h : ¬ Mon n) : Calls Try.prog 26 #[.int .i64 n] w fun e w' => e = .returned (.bool false) ∧ w = w' := money_no n w (by unfold Mon at h; omega)
section
variable {w w1 : World} {O O1 : Nat → Nat} {base t t' sb n m : Nat} {v v' : Value} {g h : Nat → Bk} {S : Int → Int → Int}
/-- rows that are too great are not taken -/
theorem btake_over {A : Option Addr} {m c : Nat} (hr : AtR be 3 w A m h) (hm : m ≤ 1000) (HR : Hid (SumIs (fun j => (h j).a) m 0 false)) :
    Calls Try.prog 27 #[ptr sb, .slice A m c] w fun e w' => e = .returned (.int .i64 6) ∧ Below w.heap.size w w' := by
  have C1 := Lib.hid (bsum (c := c) hr hm 0 false HR)
  clear hr HR
  go_enter Try.func27, Try.ntmps27
  go_wp2_with (go_at_call 29; (refine (C1.out).mono ?_); rintro e w5 ⟨rfl, hb5⟩)
  go_ret
  exact ⟨rfl, hb5⟩
/-- nor are too many -/
theorem btake_limit {A : Option Addr} {m c : Nat} (hr : AtR be 3 w A m h) (hm : m ≤ 1000) (hm2 : 12 < m) (r : Int) (HR : Hid (SumIs (fun j => (h j).a) m r true)) :
    Calls Try.prog 27 #[ptr sb, .slice A m c] w fun e w' => e = .returned (.int .i64 5) ∧ Below w.heap.size w w' := by
  have C1 := Lib.hid (bsum (c := c) hr hm r true HR)
  have hq : (12 : Int) < (m : Int) := by omega
  clear hr HR
  go_enter Try.func27, Try.ntmps27
  go_wp2_with (go_at_call 29; (refine (C1.out).mono ?_); rintro e w5 ⟨rfl, hb5⟩)
  go_ret
  exact ⟨rfl, hb5⟩
/-- others are -/
theorem btake_ok {A : Option Addr} {m c : Nat} (hr : AtR be 3 w A m h) (hm2 : m ≤ 12) (r : Int) (HR : Hid (SumIs (fun j => (h j).a) m r true)) {u : Value} (c0 : w.cell? ⟨sb, 0, none⟩ = some u) (f0 : w.frozen? ⟨sb, 0, none⟩ = false) :
    Calls Try.prog 27 #[ptr sb, .slice A m c] w fun e w' => e = .returned (.int .i64 0) ∧ ∃ w2, Below w.heap.size w w2 ∧ w' = w2.setCell ⟨sb, 0, none⟩ (.slice A m c) := by
  have C1 := Lib.hid (bsum (c := c) hr (by omega) r true HR)
  have hq : ¬ (12 : Int) < (m : Int) := by omega
  have lt0 := World.block_lt_of_cell? _ _ c0
  clear hr HR
  go_enter Try.func27, Try.ntmps27
  go_wp2_with (go_at_call 29; (refine (C1.out).mono ?_); rintro e w5 ⟨rfl, hb5⟩; have d0 := cell_keep c0 hb5; have g0 := (hb5.frozen (p := ⟨sb, 0, none⟩) lt0).trans f0; have HB5 := Lib.hid hb5; clear hb5)
  go_ret
  exact ⟨rfl, _, HB5.out, rfl⟩
end
end Go.Proofs.Ythconfcpajnjgaa
