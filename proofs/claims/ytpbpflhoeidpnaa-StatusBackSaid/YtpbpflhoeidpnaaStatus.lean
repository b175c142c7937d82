/- Package status: a status in memory; a contract for each function. -/
import Derived.Test.YtpbpflhoeidpnaaRows
import Derived.Test.YtpbpflhoeidpnaaObj
import Derived.Test.YtpbpflhoeidpnaaMemV
import Derived.Test.YtpbpflhoeidpnaaPeriod
import Derived.Test.YtpbpflhoeidpnaaInts
import Derived.WalkKit
import Derived.WalkSpells
import Derived.WalkLawsBesides
import Derived.Lib.Hide
import Derived.IntWalk
import Derived.Lib.LazyBuf
import Derived.Deep.LoopGhost
import Derived.Deep.QuietTactic
import Derived.BigQuiet
import Derived.Deep.RegionHeld3
import Derived.Deep.RegionLaw
namespace Go.Proofs.Ytpbpflhoeidpnaa
open Go.RowKit

theorem bool_info : (Try.prog.info? 4).map (fun i => (i.zero, i.size, i.bytes)) = some (some (.bool false), 1, 1) := by kernel_rfl
theorem bool_type : Try.prog.underlying 79 = some (.slice 4) := Try.underlying79
/-- a status behind block sb, whose mark is t: n periods are closed; f tells which were touched, the open one's (n's) too -/
structure TV (w : World) (O : Nat → Nat) (base t sb : Nat) (v : Value) (first : Int) (n : Nat) (f : Nat → Bool) : Prop where
  hd : Head w O t sb [.int .i64 first, v, .bool (f n)]
  row : RowT w O base t sb 4 1 v n ((List.range n).map fun j => .bool (f j))
  lo : 0 ≤ first
  hi : first + n ≤ 400
  off : first + n = 400 → f n = false
/-- one mark is set anew -/
def updB (f : Nat → Bool) (n : Nat) (b : Bool) : Nat → Bool := fun j => if j = n then b else f j
theorem updB_at (f : Nat → Bool) (n : Nat) (b : Bool) : updB f n b n = b := if_pos rfl
theorem updB_ne (f : Nat → Bool) {n j : Nat} (b : Bool) (h : j ≠ n) : updB f n b j = f j := if_neg h
theorem updB_row (f : Nat → Bool) {m n : Nat} (b : Bool) (h : n ≤ m) : ((List.range n).map fun j => Value.bool (updB f m b j)) = (List.range n).map fun j => .bool (f j) :=
  List.map_congr_left fun j hj => by
    have : j < n := by simpa using hj
    rw [updB_ne f b (by omega)]
section
variable {w w1 : World} {O O1 : Nat → Nat} {base t t' sb n : Nat} {v : Value} {first : Int} {f : Nat → Bool}
theorem TV.below (s : TV w O base t sb v first n f) (k : Below w.heap.size w w1) : TV w1 O base t sb v first n f := ⟨s.hd.below k, s.row.below k, s.lo, s.hi, s.off⟩
theorem TV.step (s : TV w O base t sb v first n f) (k : Step base O t' w O1 w1) (h : t ≠ t') : TV w1 O1 base t sb v first n f := ⟨s.hd.step k h, s.row.step k h, s.lo, s.hi, s.off⟩
theorem TV.new (fn : Fin0 base O w) (hb : base ≤ w.heap.size) (T : TypeId) (first : Int) (h1 : 0 ≤ first) (h2 : first ≤ 399) :
    TV (w.alloc (.cells #[.int .i64 first, .slice none 0 0, .bool false] T)) (mark O t w.heap.size) base t w.heap.size (.slice none 0 0) first 0 (fun _ => false) ∧ ∀ t', Step base O t' w (mark O t w.heap.size) (w.alloc (.cells #[.int .i64 first, .slice none 0 0, .bool false] T)) :=
  ⟨⟨Head.new w O t _ T, RowT.nil _ _ _ _ _ _ _, h1, by omega, fun _ => rfl⟩, fun t' => Step.made fn hb _ t'⟩
/-- one period more is closed -/
theorem TV.closed (s : TV w O base t sb v first n f) (fn : Fin0 base O w) (h : first + n ≤ 399) {w2 : World} {b2 c2 H : Nat} (b1 : Below w.heap.size w w1) (g : w1.grownBy w2 v.ownBlock)
    (o2 : OwnV w2 4 base (.slice (some ⟨b2, 0, none⟩) (n + 1) c2) (n + 1) (fun j => if j = n then .bool (f n) else .bool (f j))) (hat : v.ownBlock = some b2 ∨ b2 = H) (hH : w1.heap.size ≤ H) :
    TV ((w2.setCell ⟨sb, 1, none⟩ (.slice (some ⟨b2, 0, none⟩) (n + 1) c2)).setCell ⟨sb, 2, none⟩ (.bool false)) (mark O t b2) base t sb (.slice (some ⟨b2, 0, none⟩) (n + 1) c2) first (n + 1) (updB f (n + 1) false) ∧
      Step base O t w (mark O t b2) ((w2.setCell ⟨sb, 1, none⟩ (.slice (some ⟨b2, 0, none⟩) (n + 1) c2)).setCell ⟨sb, 2, none⟩ (.bool false)) := by
  have hd1 := s.hd.below b1
  have hl := World.ownsRow.lt o2 b2 rfl
  have hne : b2 ≠ sb := by
    rcases hat with q | q
    · exact (s.row.tag b2 q).2
    · have := hd1.lt; omega
  have k1 := Step.of_below (t := t) fn b1
  have k2 := Step.grown (t := t) k1.fin g (fun b hb => (s.row.tag b hb).1) hat hH hl.1 hl.2
  have hd2 := (hd1.block (O1 := O) (g.block sb hd1.lt fun e => (s.row.tag sb e.symm).2 rfl) g.size rfl).marked b2
  have k3 := Step.set (t := t) k2.fin 1 (.slice (some ⟨b2, 0, none⟩) (n + 1) c2) hd2.tag
  have hd3 := hd2.set 1 (.slice (some ⟨b2, 0, none⟩) (n + 1) c2) (by simp)
  have k4 := Step.set (t := t) k3.fin 2 (.bool false) hd2.tag
  have hd4 := hd3.set 2 (.bool false) (by simp)
  refine ⟨⟨?_, ⟨?_, fun b hb => ?_⟩, s.lo, by have := s.hi; omega, fun _ => updB_at _ _ _⟩, k1.trans (k2.trans (k3.trans k4))⟩
  · rw [updB_at]; exact hd4
  · rw [updB_row _ _ (Nat.le_refl _)]
    have e : ((List.range (n + 1)).map fun j => Value.bool (f j)) = (List.range (n + 1)).map (fun j => if j = n then Value.bool (f n) else .bool (f j)) := List.map_congr_left fun j _ => by
      by_cases q : j = n
      · rw [if_pos q, q]
      · rw [if_neg q]
    rw [e]
    refine own_blocks o2 fun b hb => ?_
    have : b2 = b := by simpa [Value.ownBlock] using hb
    subst this
    rw [Below.heap_setCell _ _ _ _ hne, Below.heap_setCell _ _ _ _ hne]
  · have : b2 = b := by simpa [Value.ownBlock] using hb
    subst this
    exact ⟨mark_at _ _ _, hne⟩
theorem tnew_yes (first : Int) (w : World) (h1 : 0 ≤ first) (h2 : first ≤ 399) :
    Calls Try.prog 31 #[.int .i64 first] w fun e w' => e = .returned (.tuple #[ptr w.heap.size, .int .i64 0]) ∧ w' = w.alloc (.cells #[.int .i64 first, .slice none 0 0, .bool false] 81) := by
  go_enter Try.func31, Try.ntmps31
  go_wp2_with (go_at_call 57; (with_reducible refine (pright_yes _ _ h1 h2).mono ?_); rintro e w' ⟨rfl, rfl⟩)
  go_ret2
  exact ⟨rfl, rfl⟩
theorem tnew_no (first : Int) (w : World) (h : first < 0 ∨ 399 < first) :
    Calls Try.prog 31 #[.int .i64 first] w fun e w' => e = .returned (.tuple #[.pointer none, .int .i64 1]) ∧ w = w' := by
  go_enter Try.func31, Try.ntmps31
  go_wp2_with (go_at_call 57; (with_reducible refine (pright_no _ _ h).mono ?_); rintro e w' ⟨rfl, rfl⟩)
  go_ret2
  exact ⟨rfl, rfl⟩
theorem topen_yes (s : TV w O base t sb v first n f) (h : first + n ≤ 399) :
    Calls Try.prog 32 #[ptr sb] w fun e w' => e = .returned (.tuple #[.int .i64 (first + n), .bool true]) ∧ Below w.heap.size w w' := by
  have c0 := s.hd.c0
  have c1 := s.hd.c1
  have h0 := s.lo
  obtain ⟨A, c, rfl, hc, hm, _⟩ := s.row.form
  have ew : IntKind.i64.wrap (first + (n : Int)) = first + (n : Int) := IntWalk.i64_in _ (by omega)
  have p0 : 0 ≤ first + (n : Int) := by omega
  clear s
  go_enter Try.func32, Try.ntmps32
  go_wp2
  go_big_quiet (fail)
  go_wp2_with (go_at_call 57; (with_reducible refine (pright_yes _ _ p0 h).mono ?_); rintro e w' ⟨rfl, rfl⟩)
  go_ret2
  exact ⟨rfl, drewN_below _ _ _⟩
theorem topen_no (s : TV w O base t sb v first n f) (h : first + n = 400) :
    Calls Try.prog 32 #[ptr sb] w fun e w' => e = .returned (.tuple #[.int .i64 0, .bool false]) ∧ Below w.heap.size w w' := by
  have c0 := s.hd.c0
  have c1 := s.hd.c1
  have h0 := s.lo
  obtain ⟨A, c, rfl, hc, hm, _⟩ := s.row.form
  have ew : IntKind.i64.wrap (first + (n : Int)) = first + (n : Int) := IntWalk.i64_in _ (by omega)
  have p0 : first + (n : Int) < 0 ∨ 399 < first + (n : Int) := by omega
  clear s h
  go_enter Try.func32, Try.ntmps32
  go_wp2
  go_big_quiet (fail)
  go_wp2_with (go_at_call 57; (with_reducible refine (pright_no _ _ p0).mono ?_); rintro e w' ⟨rfl, rfl⟩)
  go_ret2
  exact ⟨rfl, drewN_below _ _ _⟩
theorem ttouch_no (s : TV w O base t sb v first n f) (h : first + n = 400) :
    Calls Try.prog 34 #[ptr sb] w fun e w' => e = .returned (.int .i64 8) ∧ Below w.heap.size w w' := by
  have HS := Lib.hid s
  have HH := Lib.hid h
  clear s h
  go_enter Try.func34, Try.ntmps34
  go_wp2_with fail
  refine (topen_no HS.out HH.out).mono ?_
  rintro e w1 ⟨rfl, hb⟩
  have HB := Lib.hid hb
  clear hb
  go_wp2
  go_ret
  exact ⟨rfl, HB.out⟩
theorem ttouch_yes (s : TV w O base t sb v first n f) (fn : Fin0 base O w) (h : first + n ≤ 399) :
    Calls Try.prog 34 #[ptr sb] w fun e w' => e = .returned (.int .i64 0) ∧ TV w' O base t sb v first n (updB f n true) ∧ Step base O t w O w' := by
  have HS := Lib.hid s
  have HH := Lib.hid h
  have HF := Lib.hid fn
  clear s h fn
  go_enter Try.func34, Try.ntmps34
  go_wp2_with fail
  refine (topen_yes HS.out HH.out).mono ?_
  rintro e w1 ⟨rfl, hb⟩
  have S1 := Lib.hid (HS.out.below hb)
  have ST := Lib.hid ((Step.of_below (t := t) HF.out hb).trans (Step.set (HF.out.below hb) 2 (.bool true) S1.out.hd.tag))
  have c2 := S1.out.hd.c2
  have f2 := S1.out.hd.frz 2
  clear hb
  go_wp2
  go_ret
  refine ⟨rfl, ⟨?_, ?_, S1.out.lo, S1.out.hi, fun e => ?_⟩, ST.out⟩
  · rw [updB_at]; exact S1.out.hd.set 2 _ (by simp)
  · rw [updB_row _ _ (Nat.le_refl _)]; exact S1.out.row.head 2 _
  · have := HH.out; omega
theorem tclose_no (s : TV w O base t sb v first n f) (h : first + n = 400) :
    Calls Try.prog 33 #[ptr sb] w fun e w' => e = .returned (.int .i64 8) ∧ Below w.heap.size w w' := by
  have HS := Lib.hid s
  have HH := Lib.hid h
  clear s h
  go_enter Try.func33, Try.ntmps33
  go_wp2_with fail
  refine (topen_no HS.out HH.out).mono ?_
  rintro e w1 ⟨rfl, hb⟩
  have HB := Lib.hid hb
  clear hb
  go_wp2
  go_ret
  exact ⟨rfl, HB.out⟩
set_option maxHeartbeats 4000000 in
set_option maxRecDepth 100000 in
theorem tclose_yes (s : TV w O base t sb v first n f) (fn : Fin0 base O w) (hbase : base ≤ w.heap.size) (h : first + n ≤ 399) :
    Calls Try.prog 33 #[ptr sb] w fun e w' => e = .returned (.int .i64 0) ∧ ∃ v' O', TV w' O' base t sb v' first (n + 1) (updB f (n + 1) false) ∧ Step base O t w O' w' := by
  obtain ⟨i0, hi, hz0, hz1, hz2⟩ := info_parts bool_info
  have h400 := s.hi
  have h0 := s.lo
  have HS := Lib.hid s
  have HH := Lib.hid h
  have HF := Lib.hid fn
  obtain ⟨A, c, rfl, hc, hm, _⟩ := s.row.form
  clear s h fn
  go_enter Try.func33, Try.ntmps33
  go_wp2_with fail
  refine (topen_yes HS.out HH.out).mono ?_
  rintro e w1 ⟨rfl, hb⟩
  have S1 := Lib.hid (HS.out.below hb)
  have c1 := S1.out.hd.c1
  have c2 := S1.out.hd.c2
  have f1 := S1.out.hd.frz 1
  have lt1 := S1.out.hd.lt
  have F1 := Lib.hid (HF.out.below hb)
  have B1 := Lib.hid (Step.of_below (t := t) HF.out hb)
  have z1 : base ≤ w1.heap.size := by have := hb.size; omega
  clear hb
  go_wp2
  go_region_law ((refine step_push_v rfl (.tmp 16) (.tmp 21) rfl bool_type hi hz0 hz1 hz2 (by decide) rfl w1 base n w1.heap.size _ (fun j => .bool (f j)) (.bool (f n)) rfl rfl (by simp) rfl (S1.out.row.own.alloc _) (by omega) ((Below.refl _ _).drew.alloc z1 _) (by simp; omega) _ rfl ?_; intro b2 c3 w2 ho2 hb2 hg2 hat2; have hd2 : Head w2 O t sb _ := Head.block (O1 := O) (S1.out.hd.below ((Below.refl _ _).drew.alloc (Nat.le_refl _) _)) (hg2.block sb (by simp; omega) (fun e => (S1.out.row.tag sb e.symm).2 rfl)) hg2.size rfl; have d1 := hd2.c1; have d2 := hd2.c2; have e1 := hd2.frz 1; have e2 := hd2.frz 2; have HD2 := Lib.hid hd2; have HO2 := Lib.hid ho2; have HG2 := Lib.hid hg2; have HAT := Lib.hid hat2; clear hd2 ho2 hb2 hg2 hat2))
  all_goals
    go_wp2
    go_ret
    obtain ⟨q1, q2⟩ := TV.closed S1.out F1.out HH.out ((Below.refl _ _).drew.alloc (Nat.le_refl _) _) HG2.out HO2.out HAT.out (by simp)
    exact ⟨rfl, _, _, q1, B1.out.trans q2⟩
theorem first_next {h : Nat → Int} {k : Nat} (j : Nat) : (if j = k then h k else if j < k then h j else 0) = if j < k + 1 then h j else 0 := by
  by_cases e : j = k
  · subst e; simp
  · by_cases l : j < k
    · rw [if_neg e, if_pos l, if_pos (by omega)]
    · rw [if_neg e, if_neg l, if_neg (by omega)]
set_option maxHeartbeats 4000000 in
theorem tclosed_any (s : TV w O base t sb v first n f) :
    Calls Try.prog 35 #[ptr sb] w fun e w' => e = .returned (.slice (some ⟨w.heap.size, 0, none⟩) n n) ∧ Row w' w.heap.size n (fun j => first + j) ∧ Below w.heap.size w w' := by
  have c0 := s.hd.c0
  have c1 := s.hd.c1
  have lt := s.hd.lt
  have h0 := s.lo
  have h400 := s.hi
  obtain ⟨A, c, rfl, hc, hm, _⟩ := s.row.form
  have hmk := run_make_row' (P := Try.prog) 40 3 (.int .i64 0) 8 Try.underlying40 int_info rfl .i64 .i64 n (by omega) (by omega)
  clear s
  go_enter Try.func35, Try.ntmps35
  go_wp2
  go_loopg [13] n (fun gh i wr => ∃ k : Nat, k ≤ n ∧ gh = n - k ∧ i = .int .i64 k ∧ Row wr w.heap.size n (fun j => if j < k then first + j else 0) ∧ Below w.heap.size w wr)
  case atStart => exact ⟨0, Nat.zero_le _, rfl, rfl, (made_row w n _).ext (fun j _ => by simp), (Below.refl _ _).alloc (Nat.le_refl _) _⟩
  case round =>
    obtain ⟨k, hk, hgk, rfl, hr, hbw⟩ := hrel
    have HGK := Lib.hid hgk
    have HB := Lib.hid hbw
    have HR := Lib.hid hr
    have d0 := (HB.out.cell (p := ⟨sb, 0, none⟩) lt).trans c0
    clear hgk hbw hr hmk
    by_cases hlt : k < n
    · have ck := (HR.out.2 k hlt).1
      have fk := (HR.out.2 k hlt).2
      have ew : IntKind.i64.wrap (first + (k : Int)) = first + (k : Int) := IntWalk.i64_in _ (by omega)
      go_wp2
      go_roundg (n - (k + 1))
      case measure => have := HGK.out; omega
      case rel => exact ⟨k + 1, by omega, rfl, by go_num, (HR.out.set hlt (first + (k : Int))).ext fun j _ => first_next (h := fun j => first + (j : Int)) j, HB.out.setCell (Nat.le_refl _) _⟩
    · obtain rfl : k = n := by omega
      clear hlt
      go_wp2
      go_ret
      exact ⟨rfl, HR.out.ext fun j hj => if_pos hj, HB.out⟩
theorem treopen_none (s : TV w O base t sb v first 0 f) : Calls Try.prog 36 #[ptr sb] w fun e w' => e = .returned (.int .i64 3) ∧ w = w' := by
  have c1 := s.hd.c1
  obtain ⟨A, c, rfl, hc, hm, _⟩ := s.row.form
  clear s
  go_enter Try.func36, Try.ntmps36
  go_wp2
  go_ret
  exact ⟨rfl, rfl⟩
theorem treopen_held (s : TV w O base t sb v first n f) (hn : 0 < n) (hf : f n = true) : Calls Try.prog 36 #[ptr sb] w fun e w' => e = .returned (.int .i64 8) ∧ w = w' := by
  have c1 := s.hd.c1
  have c2 := s.hd.c2
  rw [hf] at c2
  obtain ⟨A, c, rfl, hc, hm, _⟩ := s.row.form
  have h0 : ((n : Int) == 0) = false := by simp; omega
  clear s
  go_enter Try.func36, Try.ntmps36
  go_wp2
  go_ret
  exact ⟨rfl, rfl⟩
/-- one period less is closed -/
theorem TV.opened (s : TV w O base t sb v first (n + 1) f) (fn : Fin0 base O w) {A : Option Addr} {c : Nat} (hv : v = .slice A (n + 1) c) :
    TV ((w.setCell ⟨sb, 2, none⟩ (.bool (f n))).setCell ⟨sb, 1, none⟩ (.slice A n c)) O base t sb (.slice A n c) first n f ∧ Step base O t w O ((w.setCell ⟨sb, 2, none⟩ (.bool (f n))).setCell ⟨sb, 1, none⟩ (.slice A n c)) := by
  subst hv
  have k1 := Step.set (t := t) fn 2 (.bool (f n)) s.hd.tag
  have k2 := Step.set (t := t) k1.fin 1 (.slice A n c) s.hd.tag
  have r := own_less s.row.own (Nat.le_succ n)
  rw [Nat.mul_one, ← List.map_take, List.take_range, Nat.min_eq_left (Nat.le_succ n)] at r
  have e : (Value.slice A n c).ownBlock = (Value.slice A (n + 1) c).ownBlock := by cases A <;> rfl
  refine ⟨⟨(s.hd.set 2 (.bool (f n)) (by simp)).set 1 (.slice A n c) (by simp), (RowT.head (RowT.head (sb := sb) (t := t) (O := O) ⟨r, fun b hb => s.row.tag b (by rw [← e]; exact hb)⟩ 2 _) 1 _), s.lo, by have := s.hi; omega, fun h => by have := s.hi; omega⟩, k1.trans k2⟩
set_option maxHeartbeats 4000000 in
theorem treopen_ok (s : TV w O base t sb v first (n + 1) f) (fn : Fin0 base O w) (hf : f (n + 1) = false) :
    Calls Try.prog 36 #[ptr sb] w fun e w' => e = .returned (.int .i64 0) ∧ ∃ v', TV w' O base t sb v' first n f ∧ Step base O t w O w' := by
  have c1 := s.hd.c1
  have c2 := s.hd.c2
  have f1 := s.hd.frz 1
  have f2 := s.hd.frz 2
  have h0 := s.lo
  have h400 := s.hi
  rw [hf] at c2
  obtain ⟨b, c, rfl, hc, hm⟩ := own_some s.row.own (by omega)
  have ck : w.cell? ⟨b, n, none⟩ = some (.bool (f n)) := by
    rw [World.ownsRow.cellAt s.row.own n (by omega)]; simp
  have hne := (s.row.tag b rfl).2
  have FIN := Lib.hid (s.opened fn rfl)
  clear s fn hf
  obtain ⟨m, hm1⟩ : ∃ m, n + 1 = m := ⟨_, rfl⟩
  rw [hm1] at c1 hc
  have ew : IntKind.i64.wrap ((m : Int) - 1) = (n : Int) := by rw [← hm1]; exact (IntWalk.i64_in _ (by omega)).trans (by omega)
  have e0 : ((m : Int) == 0) = false := by simp; omega
  have b1 : (0 : Int) ≤ (n : Int) := by omega
  have b2 : (n : Int) < (m : Int) := by omega
  have b3 : (n : Int) ≤ (c : Int) := by omega
  clear hm1
  go_enter Try.func36, Try.ntmps36
  go_wp2
  go_ret
  exact ⟨rfl, _, FIN.out⟩
set_option maxRecDepth 100000 in
theorem sclone_any (v : Value) (n b0 : Nat) (g : Nat → Bool) (w : World) (h : w.ownsRow b0 4 1 v n ((List.range n).map fun j => .bool (g j))) (hn : n ≤ 1000000) :
    Calls Try.prog 58 #[v] w fun e w' => ∃ v', e = .returned v' ∧ w'.ownsRow w.heap.size 4 1 v' n ((List.range n).map fun j => .bool (g j)) ∧ Below w.heap.size w w' := by
  obtain ⟨i0, hi, hz0, hz1, hz2⟩ := info_parts bool_info
  have HS := Lib.hid h
  rcases h.2 with ⟨rfl, rfl⟩ | ⟨gb, cap, cur, rfl, _⟩
  · clear h
    have hop := fun w => run_eql_slice_nil (P := Try.prog) w 79 4 none 0 0 bool_type
    go_enter Try.func58, Try.ntmps58
    go_wp2_with (simp only [hop])
    go_ret
    exact ⟨_, rfl, World.ownsRow_nil _ _ _ _, Below.refl _ _⟩
  · clear h
    have hop := fun w => run_eql_slice_nil (P := Try.prog) w 79 4 (some ⟨gb, 0, none⟩) n cap bool_type
    go_enter Try.func58, Try.ntmps58
    go_wp2_with (first | (simp only [hop]) | at_builtin; (refine wpList_app_row rfl (.tmp 5) (.tmp 6) rfl bool_type hi hz0 hz1 hz2 rfl (by decide) w w.heap.size b0 0 n cap _ _ [] _ rfl rfl (World.ownsRow_lit w #[] 0 (Nat.le_refl _) (by decide) rfl) (HS.out.alloc _) (fun u hu => (by simp at hu; obtain ⟨_, _, rfl⟩ := hu; rfl)) (by unfold maxLen; omega) (by omega) ((Below.refl _ _).alloc (Nat.le_refl _) _) (by simp) ?_; intro v1 w1 ho1 hb1 hg1; rw [Nat.zero_add, List.nil_append] at ho1))
    go_ret
    exact ⟨_, rfl, ho1, hb1⟩
set_option maxHeartbeats 4000000 in
set_option maxRecDepth 100000 in
theorem tclone_any (s : TV w O base t sb v first n f) (fn : Fin0 base O w) (hb : base ≤ w.heap.size) (t' : Nat) :
    Calls Try.prog 43 #[ptr sb] w fun e w' => ∃ v' sb' O', e = .returned (ptr sb') ∧ TV w' O' base t' sb' v' first n f ∧ w.heap.size ≤ sb' ∧ ∀ t2, Step base O t2 w O' w' := by
  have c0 := s.hd.c0
  have c1 := s.hd.c1
  have c2 := s.hd.c2
  have h400 := s.hi
  have h0 := s.lo
  have lt := s.hd.lt
  obtain ⟨A, c, rfl, hc, hm, _⟩ := s.row.form
  have HS := Lib.hid s
  have HF := Lib.hid fn
  have CL := Lib.hid (sclone_any (.slice A n c) n base f w.drew s.row.own (by omega))
  have hdr := below_drew w
  clear s fn
  go_enter Try.func43, Try.ntmps43
  go_wp2
  go_region_held3 (fun w' => w'.cell? ⟨sb, 0, none⟩ = some (.int .i64 first) ∧ w'.cell? ⟨sb, 1, none⟩ = some (.slice A n c) ∧ w'.cell? ⟨sb, 2, none⟩ = some (.bool (f n)) ∧ Below w.heap.size w w') (first | go_keep) (first | (go_at_call 58; (with_reducible refine (CL.out).mono ?_); rintro e w5 ⟨v5, rfl, ho5, hb5⟩; obtain ⟨A5, c5, rfl, _, _, _⟩ := own_form ho5; have k0 := cell_keep (w := w.drew) c0 hb5; have k1 := cell_keep (w := w.drew) c1 hb5; have k2 := cell_keep (w := w.drew) c2 hb5; have k4 := hdr.trans hb5; have k5 : ∀ x, Below w.heap.size w (w5.alloc x) := fun x => k4.alloc k4.size x; have HO5 := Lib.hid ho5; have K4 := Lib.hid k4; clear ho5 hb5))
  go_wp2
  go_ret
  obtain ⟨O1, m1, st1⟩ := fresh_marked HF.out hb K4.out HO5.out t'
  have z5 : base ≤ w5.heap.size := Nat.le_trans hb K4.out.size
  refine ⟨_, w5.heap.size, mark O1 t' w5.heap.size, rfl, ⟨Head.new w5 O1 t' _ _, ⟨own_mono (World.ownsRow.alloc HO5.out _) hb, fun b hb => ?_⟩, HS.out.lo, HS.out.hi, HS.out.off⟩, K4.out.size, fun t2 => (st1 t2).trans (Step.made (st1 t2).fin z5 _ t2)⟩
  have := m1 b hb
  exact ⟨(mark_ne _ _ (by omega)).trans this.1, by omega⟩
end
end Go.Proofs.Ytpbpflhoeidpnaa
