/- The document's own status: a contract for each function. -/
import Derived.Test.YtpbpflhoeidpnaaStatus
import Derived.Test.YtpbpflhoeidpnaaRefP
import Derived.Test.YtpbpflhoeidpnaaOrd
import Derived.WalkKit
import Derived.WalkSpells
import Derived.WalkLawsBesides
import Derived.Lib.Hide
import Derived.IntWalk
import Derived.Deep.LoopGhost
import Derived.Deep.QuietTactic
import Derived.BigQuiet
import Derived.Deep.RegionLaw
namespace Go.Proofs.Ytpbpflhoeidpnaa
open Go.RowKit

/-- the document's status behind block sb, whose mark is t -/
structure RV (w : World) (O : Nat → Nat) (base t sb : Nat) (v : Value) (first : Int) (n : Nat) (f : Nat → Bool) : Prop where
  hd : Head w O t sb [.int .i64 first, .int .i64 (first + n), v]
  row : RowT w O base t sb 4 1 v (n + 1) ((List.range (n + 1)).map fun j => .bool (f j))
  lo : 0 ≤ first
  hi : first + n ≤ 400
section
variable {w w1 : World} {O O1 : Nat → Nat} {base t t' sb n : Nat} {v : Value} {first : Int} {f : Nat → Bool}
theorem RV.below (s : RV w O base t sb v first n f) (k : Below w.heap.size w w1) : RV w1 O base t sb v first n f := ⟨s.hd.below k, s.row.below k, s.lo, s.hi⟩
theorem RV.step (s : RV w O base t sb v first n f) (k : Step base O t' w O1 w1) (h : t ≠ t') : RV w1 O1 base t sb v first n f := ⟨s.hd.step k h, s.row.step k h, s.lo, s.hi⟩
theorem rnew8 (first : Int) (w : World) (fn : Fin0 base O w) (hb : base ≤ w.heap.size) (h1 : 0 ≤ first) (h2 : first ≤ 399) (t : Nat) :
    Calls Try.prog 39 #[.int .i64 first] w fun e w' => ∃ v sb O', e = .returned (ptr sb) ∧ RV w' O' base t sb v first 0 (fun _ => false) ∧ w.heap.size ≤ sb ∧ ∀ t2, Step base O t2 w O' w' := by
  go_enter Try.func39, Try.ntmps39
  go_wp2
  go_ret
  have s1 := fun t2 => Step.made fn hb (.cells #[.bool false] 4) (t := t) t2
  have z0 : (w.alloc (.cells #[.bool false] 4)).heap.size = w.heap.size + 1 := by simp
  have z1 : base ≤ (w.alloc (.cells #[.bool false] 4)).heap.size := by omega
  have r1 := World.ownsRow_lit (base := base) (e := 4) (size := 1) w #[.bool false] 1 hb (by decide) rfl
  refine ⟨.slice (some ⟨w.heap.size, 0, none⟩) 1 1, w.heap.size + 1, mark (mark O t w.heap.size) t (w.heap.size + 1), rfl, ⟨?_, ⟨?_, fun b hb => ?_⟩, h1, by omega⟩, ?_, fun t2 => (s1 t2).trans ?_⟩
  · have := Head.new (w.alloc (.cells #[.bool false] 4)) (mark O t w.heap.size) t #[.int .i64 first, .int .i64 first, .slice (some ⟨w.heap.size, 0, none⟩) 1 1] 83
    rw [z0] at this
    simpa using this
  · exact World.ownsRow.alloc r1 _
  · have : w.heap.size = b := by simpa [Value.ownBlock] using hb
    subst this
    exact ⟨(mark_ne _ _ (by omega)).trans (mark_at _ _ _), by omega⟩
  · omega
  · have := Step.made (s1 t2).fin z1 (.cells #[.int .i64 first, .int .i64 first, .slice (some ⟨w.heap.size, 0, none⟩) 1 1] 83) (t := t) t2
    rw [z0] at this
    exact this
theorem ropen_yes (s : RV w O base t sb v first n f) (h : first + n ≤ 399) :
    Calls Try.prog 44 #[ptr sb] w fun e w' => e = .returned (.tuple #[.int .i64 (first + n), .bool true]) ∧ w = w' := by
  have c1 := s.hd.c1
  have h0 := s.lo
  have PR := Lib.hid fun w => rperiod_yes (first + (n : Int)) w (by omega) h
  clear s h
  go_enter Try.func44, Try.ntmps44
  go_wp2_with (go_at_call 38; (with_reducible refine (PR.out _).mono ?_); rintro e w' ⟨rfl, rfl⟩)
  go_ret2
  exact ⟨rfl, rfl⟩
theorem ropen_no (s : RV w O base t sb v first n f) (h : first + n = 400) :
    Calls Try.prog 44 #[ptr sb] w fun e w' => e = .returned (.tuple #[.int .i64 0, .bool false]) ∧ w = w' := by
  have c1 := s.hd.c1
  have h0 := s.lo
  have PR := Lib.hid fun w => rperiod_no (first + (n : Int)) w (by omega)
  clear s h
  go_enter Try.func44, Try.ntmps44
  go_wp2_with (go_at_call 38; (with_reducible refine (PR.out _).mono ?_); rintro e w' ⟨rfl, rfl⟩)
  go_ret2
  exact ⟨rfl, rfl⟩
theorem rtouch_no (s : RV w O base t sb v first n f) (h : first + n = 400) :
    Calls Try.prog 42 #[ptr sb] w fun e w' => e = .returned (.int .i64 8) ∧ w = w' := by
  have c1 := s.hd.c1
  have h0 := s.lo
  have PR := Lib.hid fun w => rperiod_no (first + (n : Int)) w (by omega)
  clear s h
  go_enter Try.func42, Try.ntmps42
  go_wp2_with (go_at_call 38; (with_reducible refine (PR.out _).mono ?_); rintro e w' ⟨rfl, rfl⟩)
  go_ret
  exact ⟨rfl, rfl⟩
theorem rclose_no (s : RV w O base t sb v first n f) (h : first + n = 400) :
    Calls Try.prog 40 #[ptr sb] w fun e w' => e = .returned (.int .i64 8) ∧ w = w' := by
  have c1 := s.hd.c1
  have h0 := s.lo
  have PR := Lib.hid fun w => rperiod_no (first + (n : Int)) w (by omega)
  clear s h
  go_enter Try.func40, Try.ntmps40
  go_wp2_with (go_at_call 38; (with_reducible refine (PR.out _).mono ?_); rintro e w' ⟨rfl, rfl⟩)
  go_ret
  exact ⟨rfl, rfl⟩
theorem new_cell (w : World) (a : Addr) (x u : Value) (T : TypeId) : ((w.setCell a x).alloc (.cells #[u] T)).cell? ⟨w.heap.size, 0, none⟩ = some u := by
  have h := heap_alloc_new (w.setCell a x) (.cells #[u] T)
  rw [show (w.setCell a x).heap.size = w.heap.size by simp] at h
  rw [cell_of_row _ w.heap.size 0 _ T (0, 0) h]; rfl
theorem rrow_at (s : RV w O base t sb v first n f) : ∃ b c, v = .slice (some ⟨b, 0, none⟩) (n + 1) c ∧ n + 1 ≤ c ∧ c ≤ maxLen ∧ b ≠ sb ∧ O b = t ∧ w.cell? ⟨b, n, none⟩ = some (.bool (f n)) ∧ w.frozen? ⟨b, n, none⟩ = false := by
  obtain ⟨b, c, rfl, h1, h2⟩ := own_some s.row.own (by omega)
  refine ⟨b, c, rfl, h1, h2, (s.row.tag b rfl).2, (s.row.tag b rfl).1, ?_, World.ownsRow.frozenAt s.row.own n⟩
  rw [World.ownsRow.cellAt s.row.own n (by omega)]; simp
theorem updB_set (f : Nat → Bool) (n : Nat) (b : Bool) : ((List.range (n + 1)).map fun j => Value.bool (f j)).set n (.bool b) = (List.range (n + 1)).map fun j => .bool (updB f n b j) := by
  apply List.ext_getElem (by simp)
  intro j h1 h2
  rw [List.getElem_set]
  by_cases e : n = j
  · subst e; simp [updB_at]
  · simp [e, updB_ne f b (fun q => e q.symm)]
set_option maxHeartbeats 4000000 in
set_option maxRecDepth 100000 in
theorem rtouch_yes (s : RV w O base t sb v first n f) (fn : Fin0 base O w) (h : first + n ≤ 399) :
    Calls Try.prog 42 #[ptr sb] w fun e w' => e = .returned (.int .i64 0) ∧ RV w' O base t sb v first n (updB f n true) ∧ Step base O t w O w' := by
  have c1 := s.hd.c1
  have c2 := s.hd.c2
  have h0 := s.lo
  have HS := Lib.hid s
  have HF := Lib.hid fn
  have PR := Lib.hid fun w => rperiod_yes (first + (n : Int)) w (by omega) h
  obtain ⟨b, c, rfl, hc, hm, hne, htb, ck, fk⟩ := rrow_at s
  obtain ⟨m, hm1⟩ : ∃ m, n + 1 = m := ⟨_, rfl⟩
  rw [hm1] at c2 hc
  have ew : IntKind.i64.wrap ((m : Int) - 1) = (n : Int) := by rw [← hm1]; exact (IntWalk.i64_in _ (by omega)).trans (by omega)
  have b1 : (0 : Int) ≤ (n : Int) := by omega
  have b2 : (n : Int) < (m : Int) := by omega
  have hne' : ¬ sb = b := fun e => hne e.symm
  have HM := Lib.hid hm1
  clear s fn h hm1
  go_enter Try.func42, Try.ntmps42
  go_wp2_with (go_at_call 38; (with_reducible refine (PR.out _).mono ?_); rintro e w' ⟨rfl, rfl⟩)
  go_region_law (fail)
  all_goals
    go_wp2
    go_ret
    have d0 := Step.of_below (t := t) HF.out (below_drew w)
    have S0 := HS.out.below (below_drew w)
    have k := Step.set (t := t) d0.fin (b := b) n (.bool true) htb
    have r := (World.ownsRow.stored S0.row.own n (.bool true)).1
    rw [updB_set] at r
    exact ⟨rfl, ⟨S0.hd.block (O1 := O) (Below.heap_setCell _ _ _ _ (fun e => hne e.symm)) (by simp) rfl, ⟨r, S0.row.tag⟩, S0.lo, S0.hi⟩, d0.trans k⟩
set_option maxHeartbeats 4000000 in
set_option maxRecDepth 100000 in
theorem rclose_yes (s : RV w O base t sb v first n f) (fn : Fin0 base O w) (hbase : base ≤ w.heap.size) (h : first + n ≤ 399) :
    Calls Try.prog 40 #[ptr sb] w fun e w' => e = .returned (.int .i64 0) ∧ ∃ v' O', RV w' O' base t sb v' first (n + 1) (updB f (n + 1) false) ∧ Step base O t w O' w' := by
  obtain ⟨i0, hi, hz0, hz1, hz2⟩ := info_parts bool_info
  have c1 := s.hd.c1
  have c2 := s.hd.c2
  have g1 := s.hd.frz 1
  have h0 := s.lo
  have HS := Lib.hid s
  have HF := Lib.hid fn
  have HH := Lib.hid h
  have PR := Lib.hid fun w => rperiod_yes (first + (n : Int)) w (by omega) h
  obtain ⟨u, hu⟩ : ∃ u, first + (n : Int) = u := ⟨_, rfl⟩
  rw [hu] at c1 PR
  have ew : IntKind.i64.wrap (u + 1) = u + 1 := IntWalk.i64_in _ (by omega)
  have hu2 := Lib.hid hu
  obtain ⟨b, c, rfl, hc, hm, hne, htb, _, _⟩ := rrow_at s
  have k1 := Step.set (t := t) fn 1 (.int .i64 (u + 1)) s.hd.tag
  have hd1 := Lib.hid (s.hd.set 1 (.int .i64 (u + 1)) (by simp))
  have ro1 := Lib.hid (s.row.head 1 (.int .i64 (u + 1)))
  have K1 := Lib.hid k1
  have z1 : (w.setCell ⟨sb, 1, none⟩ (.int .i64 (u + 1))).heap.size = w.heap.size := by simp
  have d2 := hd1.out.c2
  have ltb := s.hd.lt
  obtain ⟨m, hm1⟩ : ∃ m, n + 1 = m := ⟨_, rfl⟩
  rw [hm1] at c2 d2 hc ro1
  have hm4 : m ≤ 400 := by omega
  have HM := Lib.hid hm1
  clear s fn h hm1 k1 hu
  go_enter Try.func40, Try.ntmps40
  go_wp2_with (first | (go_at_call 38; (with_reducible refine (PR.out _).mono ?_); rintro e w' ⟨rfl, rfl⟩) | (at_builtin; (refine wpList_push_v rfl (.tmp 20) (.tmp 21) rfl bool_type hi hz0 hz1 hz2 (by decide) rfl (w.setCell ⟨sb, 1, none⟩ (.int .i64 (u + 1))) base m w.heap.size _ (fun j => .bool (f j)) (.bool false) rfl rfl (new_cell _ _ _ _ _) rfl (World.ownsRow.alloc ro1.out.own _) (by omega) ((Below.refl _ _).alloc (by simp; omega) _) (by simp; omega) _ rfl ?_; intro b2 c3 w2 ho2 hb2 hg2 hat2; have hd2 : Head w2 O t sb _ := Head.block (O1 := O) (hd1.out.below ((Below.refl _ _).alloc (Nat.le_refl _) _)) (hg2.block sb (by simp; omega) (fun e => (ro1.out.tag sb e.symm).2 rfl)) hg2.size rfl; have q2 := hd2.c2; have e2 := hd2.frz 2; have HD2 := Lib.hid hd2; have HO2 := Lib.hid ho2; have HG2 := Lib.hid hg2; have HAT := Lib.hid hat2; clear hd2 ho2 hb2 hg2 hat2)))
  go_ret
  have hl := World.ownsRow.lt HO2.out b2 rfl
  have hne2 : b2 ≠ sb := by
    rcases HAT.out with q | q
    · exact (ro1.out.tag b2 q).2
    · rw [q]; simp; omega
  have k2 := Step.of_below (t := t) K1.out.fin ((Below.refl _ _).alloc (Nat.le_refl _) (.cells #[.bool false] 4))
  have k3 := Step.grown (t := t) k2.fin HG2.out (fun b hb => (ro1.out.tag b hb).1) HAT.out (Nat.le_refl _) hl.1 hl.2
  have hd3 := HD2.out.marked b2
  have k4 := Step.set (t := t) k3.fin 2 (.slice (some ⟨b2, 0, none⟩) (m + 1) c3) hd3.tag
  have hd4 := hd3.set 2 (.slice (some ⟨b2, 0, none⟩) (m + 1) c3) (by simp)
  have hmm := HM.out
  have huu := hu2.out
  refine ⟨rfl, .slice (some ⟨b2, 0, none⟩) (m + 1) c3, mark O t b2, ⟨?_, ?_, h0, by have := HH.out; omega⟩, K1.out.trans (k2.trans (k3.trans k4))⟩
  · rw [show first + ((n + 1 : Nat) : Int) = u + 1 by omega]; exact hd4
  · subst hmm
    refine ⟨?_, fun b hb => ?_⟩
    · have e : ((List.range (n + 1 + 1)).map fun j => Value.bool (updB f (n + 1) false j)) = (List.range (n + 1 + 1)).map (fun j => if j = n + 1 then Value.bool false else .bool (f j)) := List.map_congr_left fun j _ => by
        by_cases q : j = n + 1
        · rw [if_pos q, q, updB_at]
        · rw [if_neg q, updB_ne f false q]
      rw [e]
      refine own_blocks HO2.out fun b hb => ?_
      have : b2 = b := by simpa [Value.ownBlock] using hb
      subst this
      exact Below.heap_setCell _ _ _ _ hne2
    · have : b2 = b := by simpa [Value.ownBlock] using hb
      subst this
      exact ⟨mark_at _ _ _, hne2⟩
set_option maxHeartbeats 4000000 in
theorem rreopen_none (s : RV w O base t sb v first 0 f) : Calls Try.prog 41 #[ptr sb] w fun e w' => e = .returned (.int .i64 3) ∧ Below w.heap.size w w' := by
  have c0 := s.hd.c0
  have c1 := s.hd.c1
  rw [show first + ((0 : Nat) : Int) = first by omega] at c1
  clear s
  go_enter Try.func41, Try.ntmps41
  go_wp2
  go_big_quiet (fail)
  go_wp2
  go_ret
  exact ⟨rfl, drewN_below _ _ _⟩
set_option maxHeartbeats 4000000 in
set_option maxRecDepth 100000 in
theorem rreopen_held (s : RV w O base t sb v first n f) (hn : 0 < n) (hf : f n = true) : Calls Try.prog 41 #[ptr sb] w fun e w' => e = .returned (.int .i64 8) ∧ Below w.heap.size w w' := by
  have c0 := s.hd.c0
  have c1 := s.hd.c1
  have c2 := s.hd.c2
  have h0 := s.lo
  have h400 := s.hi
  obtain ⟨b, c, rfl, hc, hm, hne, htb, ck, fk⟩ := rrow_at s
  rw [hf] at ck
  have ee : (first + (n : Int) == first) = false := by simp; omega
  obtain ⟨m, hm1⟩ : ∃ m, n + 1 = m := ⟨_, rfl⟩
  rw [hm1] at c2 hc
  have ew : IntKind.i64.wrap ((m : Int) - 1) = (n : Int) := by rw [← hm1]; exact (IntWalk.i64_in _ (by omega)).trans (by omega)
  have b1 : (0 : Int) ≤ (n : Int) := by omega
  have b2 : (n : Int) < (m : Int) := by omega
  clear s hm1
  obtain ⟨u, hu⟩ : ∃ u, first + (n : Int) = u := ⟨_, rfl⟩
  rw [hu] at c1 ee
  clear hu h400
  go_enter Try.func41, Try.ntmps41
  go_wp2
  go_big_quiet (fail)
  go_wp2
  go_big_quiet (fail)
  go_wp2
  go_ret
  exact ⟨rfl, (drewN_below _ _ _).trans (drewN_below _ _ _)⟩
theorem RV.opened {A : Option Addr} {c : Nat} (s : RV w O base t sb (.slice A (n + 1 + 1) c) first (n + 1) f) (fn : Fin0 base O w) :
    RV ((w.setCell ⟨sb, 1, none⟩ (.int .i64 (first + (n : Int)))).setCell ⟨sb, 2, none⟩ (.slice A (n + 1) c)) O base t sb (.slice A (n + 1) c) first n f ∧ Step base O t w O ((w.setCell ⟨sb, 1, none⟩ (.int .i64 (first + (n : Int)))).setCell ⟨sb, 2, none⟩ (.slice A (n + 1) c)) := by
  have r := own_less s.row.own (Nat.le_succ (n + 1))
  rw [Nat.mul_one, ← List.map_take, List.take_range, Nat.min_eq_left (Nat.le_succ (n + 1))] at r
  have e : (Value.slice A (n + 1) c).ownBlock = (Value.slice A (n + 1 + 1) c).ownBlock := by cases A <;> rfl
  have k1 := Step.set (t := t) fn 1 (.int .i64 (first + (n : Int))) s.hd.tag
  have k2 := Step.set (t := t) k1.fin 2 (.slice A (n + 1) c) s.hd.tag
  exact ⟨⟨(s.hd.set 1 _ (by simp)).set 2 _ (by simp), RowT.head (RowT.head (sb := sb) (t := t) (O := O) ⟨r, fun x hx => s.row.tag x (by rw [← e]; exact hx)⟩ 1 _) 2 _, s.lo, by have := s.hi; omega⟩, k1.trans k2⟩
set_option maxHeartbeats 4000000 in
set_option maxRecDepth 100000 in
theorem rreopen_ok (s : RV w O base t sb v first (n + 1) f) (fn : Fin0 base O w) (hf : f (n + 1) = false) :
    Calls Try.prog 41 #[ptr sb] w fun e w' => e = .returned (.int .i64 0) ∧ ∃ v', RV w' O base t sb v' first n f ∧ Step base O t w O w' := by
  have c0 := s.hd.c0
  have c1 := s.hd.c1
  have c2 := s.hd.c2
  have f1 := s.hd.frz 1
  have f2 := s.hd.frz 2
  have h0 := s.lo
  have h400 := s.hi
  have HS := Lib.hid s
  have HF := Lib.hid fn
  obtain ⟨b, c, rfl, hc, hm, hne, htb, ck, fk⟩ := rrow_at s
  rw [hf] at ck
  have ee : (first + ((n + 1 : Nat) : Int) == first) = false := by simp; omega
  obtain ⟨p, hp⟩ : ∃ p, n + 1 = p := ⟨_, rfl⟩
  rw [hp] at c1 c2 hc ck fk ee h400
  obtain ⟨m, hm1⟩ : ∃ m, p + 1 = m := ⟨_, rfl⟩
  rw [hm1] at c2 hc
  have ew : IntKind.i64.wrap ((m : Int) - 1) = (p : Int) := by rw [← hm1]; exact (IntWalk.i64_in _ (by omega)).trans (by omega)
  have b1 : (0 : Int) ≤ (p : Int) := by omega
  have b2 : (p : Int) < (m : Int) := by omega
  have b3 : (p : Int) ≤ (c : Int) := by omega
  have HP := Lib.hid hp
  have HM := Lib.hid hm1
  clear s fn hm1 hp
  obtain ⟨u, hu⟩ : ∃ u, first + (p : Int) = u := ⟨_, rfl⟩
  rw [hu] at c1 ee
  have ew2 : IntKind.i64.wrap (u - 1) = u - 1 := IntWalk.i64_in _ (by omega)
  have HU := Lib.hid hu
  clear hu h400
  go_enter Try.func41, Try.ntmps41
  go_wp2
  go_big_quiet (fail)
  go_wp2
  go_big_quiet (fail)
  go_wp2
  go_region_law (fail)
  all_goals
    go_wp2
    go_ret
    have hpp := HP.out
    subst hpp
    have hmm := HM.out
    subst hmm
    have huu := HU.out
    have e : u - 1 = first + (n : Int) := by omega
    rw [e]
    have T := fun q => RV.opened (HS.out.below (drewN_below _ w q)) (HF.out.below (drewN_below _ w q))
    have K := fun q => Step.of_below (t := t) HF.out (drewN_below _ w q)
    exact ⟨rfl, _, (T _).1.below (below_drew _), (K _).trans ((T _).2.trans (Step.of_below (T _).2.fin (below_drew _)))⟩
set_option maxHeartbeats 4000000 in
theorem rclosed_any (s : RV w O base t sb v first n f) :
    Calls Try.prog 46 #[ptr sb] w fun e w' => ∃ v', e = .returned v' ∧ Own w' 3 w.heap.size v' n (fun j => first + j) ∧ Below w.heap.size w w' := by
  obtain ⟨i0, hi, hz0, hz1, hz2⟩ := info_parts int_info
  have c0 := s.hd.c0
  have c1 := s.hd.c1
  have lt := s.hd.lt
  have h0 := s.lo
  have h400 := s.hi
  obtain ⟨u, hu⟩ : ∃ u, first + (n : Int) = u := ⟨_, rfl⟩
  rw [hu] at c1
  have HU := Lib.hid hu
  clear s hu
  go_enter Try.func46, Try.ntmps46
  go_wp2
  go_loopg [3, 4] n (fun gh x i wr => ∃ k : Nat, k ≤ n ∧ gh = n - k ∧ i = .int .i64 (first + k) ∧ Own wr 3 w.heap.size x k (fun j => first + j) ∧ Below w.heap.size w wr)
  case atStart => exact ⟨0, Nat.zero_le _, rfl, by simp, Own.nil _ _ _ _, Below.refl _ _⟩
  case round =>
    obtain ⟨k, hk, hgk, rfl, ho, hbw⟩ := hrel
    have HGK := Lib.hid hgk
    have HB := Lib.hid hbw
    have HO := Lib.hid ho
    have d1 := (HB.out.cell (p := ⟨sb, 1, none⟩) lt).trans c1
    obtain ⟨A, c, rfl, _, _, _⟩ := ho.form
    clear hgk hbw ho
    by_cases hlt : k < n
    · have e1 : first + (k : Int) < u := by have := HU.out; omega
      have ew : IntKind.i64.wrap (first + (k : Int) + 1) = first + (k : Int) + 1 := IntWalk.i64_in _ (by omega)
      obtain ⟨y, hy⟩ : ∃ y, first + (k : Int) = y := ⟨_, rfl⟩
      rw [hy] at e1 ew
      rw [hy]
      have HY := Lib.hid hy
      clear hy
      go_wp2_with (at_builtin; (refine wpList_push_int rfl (.tmp 17) (.tmp 19) rfl Try.underlying40 hi hz0 hz1 hz2 w w.heap.size k wr.heap.size _ (fun j => first + j) y rfl rfl (by simp) (HO.out.alloc _) (by omega) (HB.out.alloc HB.out.size _) (by have := HB.out.size; simp; omega) _ rfl ?_; intro b2 c2 w2 ho2 hb2 hg2 hat2; have HO2 := Lib.hid ho2; have HB2 := Lib.hid hb2; clear ho2 hb2 hg2 hat2))
      go_roundg (n - (k + 1))
      case measure => have := HGK.out; omega
      case rel => exact ⟨k + 1, by omega, rfl, by have := HY.out; go_num, HO2.out.ext fun j hj => by
        have := HY.out
        by_cases q : j = k
        · rw [if_pos q, q, this]
        · rw [if_neg q], HB2.out⟩
    · obtain rfl : k = n := by omega
      have e1 : ¬ first + (k : Int) < u := by have := HU.out; omega
      clear hlt
      go_wp2
      go_ret
      exact ⟨_, rfl, HO.out, HB.out⟩
end
end Go.Proofs.Ytpbpflhoeidpnaa
