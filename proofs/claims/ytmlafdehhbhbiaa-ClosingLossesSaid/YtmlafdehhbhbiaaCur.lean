/- Package current's Tax: contracts. -/
import Derived.Test.YtmlafdehhbhbiaaM7
import Derived.Test.YtmlafdehhbhbiaaUse
import Derived.Test.YtmlafdehhbhbiaaM10
namespace Go.Proofs.Ytmlafdehhbhbiaa
open Go.RowKit
theorem cuto_yes (n : Int) (w : World) (h1 : 0 ≤ n) (h2 : n ≤ 99) : Calls Try.prog 36 #[.int .i64 n] w fun e w' => e = .returned (.bool true) ∧ w = w' := by
  go_enter Try.func36, Try.ntmps36
  go_wp2
  all_goals
    go_ret
    exact ⟨ret_b (by first | rfl | (simp; omega)), rfl⟩
theorem cuto_no (n : Int) (w : World) (h : n < 0 ∨ 99 < n) : Calls Try.prog 36 #[.int .i64 n] w fun e w' => e = .returned (.bool false) ∧ w = w' := by
  rcases (show n < 0 ∨ (0 ≤ n ∧ 99 < n) by omega) with q | ⟨q1, q2⟩
  all_goals
    clear h
    go_enter Try.func36, Try.ntmps36
    go_wp2
    all_goals
      go_ret
      exact ⟨ret_b (by first | rfl | (simp; omega)), rfl⟩
theorem pof_at (n r a : Int) (w : World) (h1 : -400000000000 ≤ n) (h2 : n ≤ 400000000000) (h3 : 0 ≤ r) (h4 : r ≤ 10000000) (H : Hid (rof n r = a)) :
    Calls Try.prog 46 #[.int .i64 n, .int .i64 r] w fun e w' => e = .returned (.tuple #[.int .i64 a, .bool true]) ∧ w = w' :=
  of_at n r a w h1 h2 h3 h4 H
/-- the losses' copy bears mark 1; the result (w's next block) and what it is made from (block mb) bear mark 2 -/
structure TXP (w wr : World) (O : Nat → Nat) (sb mb : Nat) (S : Int → Int → Int) (xs ys : List Value) : Prop where
  now : NowL w wr O 1 sb S
  res : Head wr O 2 w.heap.size xs
  mkg : Head wr O 2 mb ys
  hne : mb ≠ w.heap.size
section
variable {w0 w wr w1 : World} {O O1 : Nat → Nat} {b0 t sb mb n q : Nat} {S S1 S' : Int → Int → Int} {g : Nat → Bk} {xs ys : List Value} {U : Option Addr} {u : Nat → Int}
theorem TXP.below (h : TXP w wr O sb mb S xs ys) (k : Below wr.heap.size wr w1) : TXP w w1 O sb mb S xs ys := ⟨h.now.below k, h.res.below k, h.mkg.below k, h.hne⟩
theorem TXP.step (h : TXP w wr O sb mb S xs ys) (k : Step w.heap.size O 1 wr O1 w1) (n1 : NowL w w1 O1 1 sb S1) : TXP w w1 O1 sb mb S1 xs ys := ⟨n1, h.res.step k (by decide), h.mkg.step k (by decide), h.hne⟩
theorem TXP.set (h : TXP w wr O sb mb S xs ys) (j : Nat) (x : Value) (hj : j < ys.length) : TXP w (wr.setCell ⟨mb, j, none⟩ x) O sb mb S xs (ys.set j x) ∧ Step w.heap.size O 2 wr O (wr.setCell ⟨mb, j, none⟩ x) := by
  have st := Step.set (t := 2) h.now.fin j x h.mkg.tag
  exact ⟨⟨h.now.step st (by decide) (by decide), h.res.far _ _ (fun e => h.hne e.symm), h.mkg.set j x hj, h.hne⟩, st⟩
theorem TXP.setR (h : TXP w wr O sb mb S xs ys) (j : Nat) (x : Value) (hj : j < xs.length) : TXP w (wr.setCell ⟨w.heap.size, j, none⟩ x) O sb mb S (xs.set j x) ys ∧ Step w.heap.size O 2 wr O (wr.setCell ⟨w.heap.size, j, none⟩ x) := by
  have st := Step.set (t := 2) h.now.fin j x h.res.tag
  exact ⟨⟨h.now.step st (by decide) (by decide), h.res.set j x hj, h.mkg.far _ _ h.hne, h.hne⟩, st⟩
/-- what it is made from is laid -/
theorem TXP.made (n1 : NowL w wr O 1 sb S) (r : Head wr O 2 w.heap.size xs) (cs : Array Value) (T : TypeId) : TXP w (wr.alloc (.cells cs T)) (mark O 2 wr.heap.size) sb wr.heap.size S xs cs.toList := by
  have st := Step.made (t := 2) n1.fin n1.low.size (.cells cs T) 3
  exact ⟨n1.step st (by decide) (by decide), r.step st (by decide), Head.new wr O 2 cs T, fun e => by have := r.lt; omega⟩
/-- the tax is put down, and all is handed over to the result -/
theorem TXP.ends {i e us nw a b c d x y T : Int} {V V' : Value} (h : TXP w wr O sb mb S (txl a b c d x y V') (txl i e us nw T 0 V)) (k : AtO b0 O wr U q u) (tx : Int) :
    (fun wf => TXP w wf O sb mb S (txl i e us nw T tx V) (txl i e us nw T tx V) ∧ AtO b0 O wf U q u) ((((((((wr.setCell ⟨mb, 5, none⟩ (.int .i64 tx)).setCell ⟨w.heap.size, 0, none⟩ (.int .i64 i)).setCell ⟨w.heap.size, 1, none⟩ (.int .i64 e)).setCell ⟨w.heap.size, 2, none⟩ (.int .i64 us)).setCell ⟨w.heap.size, 3, none⟩ (.int .i64 nw)).setCell ⟨w.heap.size, 4, none⟩ (.int .i64 T)).setCell ⟨w.heap.size, 5, none⟩ (.int .i64 tx)).setCell ⟨w.heap.size, 6, none⟩ V) := by
  have y2 := h.set 5 (.int .i64 tx) (by simp [txl])
  have z0 := y2.1.setR 0 (.int .i64 i) (by simp [txl])
  have z1 := z0.1.setR 1 (.int .i64 e) (by simp [txl])
  have z2 := z1.1.setR 2 (.int .i64 us) (by simp [txl])
  have z3 := z2.1.setR 3 (.int .i64 nw) (by simp [txl])
  have z4 := z3.1.setR 4 (.int .i64 T) (by simp [txl])
  have z5 := z4.1.setR 5 (.int .i64 tx) (by simp [txl])
  have z6 := z5.1.setR 6 V (by simp [txl])
  exact ⟨z6.1, ((((((((k.step y2.2 (by decide)).step z0.2 (by decide)).step z1.2 (by decide)).step z2.2 (by decide)).step z3.2 (by decide)).step z4.2 (by decide)).step z5.2 (by decide)).step z6.2 (by decide))⟩
/-- so with the taxable amount -/
theorem TXP.done {i e us nw a b c d x y : Int} {V V' : Value} (h : TXP w wr O sb mb S (txl a b c d x y V') (txl i e us nw 0 0 V)) (k : AtO b0 O wr U q u) (T tx : Int) :
    (fun wf => TXP w wf O sb mb S (txl i e us nw T tx V) (txl i e us nw T tx V) ∧ AtO b0 O wf U q u) (((((((((wr.setCell ⟨mb, 4, none⟩ (.int .i64 T)).setCell ⟨mb, 5, none⟩ (.int .i64 tx)).setCell ⟨w.heap.size, 0, none⟩ (.int .i64 i)).setCell ⟨w.heap.size, 1, none⟩ (.int .i64 e)).setCell ⟨w.heap.size, 2, none⟩ (.int .i64 us)).setCell ⟨w.heap.size, 3, none⟩ (.int .i64 nw)).setCell ⟨w.heap.size, 4, none⟩ (.int .i64 T)).setCell ⟨w.heap.size, 5, none⟩ (.int .i64 tx)).setCell ⟨w.heap.size, 6, none⟩ V) := by
  have y1 := h.set 4 (.int .i64 T) (by simp [txl])
  exact y1.1.ends (k.step y1.2 (by decide)) tx
theorem load_c {w : World} {O : Nat → Nat} {t b q c : Nat} {i e u n tb x : Int} {U : Option Addr} (h : Head w O t b (txl i e u n tb x (.slice U q c))) : (loadVar 39 ⟨b, 0, none⟩).run Try.prog w = .ok (txa i e u n tb x (.slice U q c)) w := by
  have c0 := h.cell 0 _ rfl
  have c1 := h.cell 1 _ rfl
  have c2 := h.cell 2 _ rfl
  have c3 := h.cell 3 _ rfl
  have c4 := h.cell 4 _ rfl
  have c5 := h.cell 5 _ rfl
  have c6 := h.cell 6 _ rfl
  clear h
  go_simp
  rfl
/-- another copy, with a base of its own -/
theorem nvcopy (h : NowV w0 w O t sb S) (W0 : World) {O2 : Nat → Nat} (fn : Fin0 W0.heap.size O2 w) (lo : Below W0.heap.size W0 w) (t' : Nat) :
    Calls Try.prog 38 #[ptr sb] w fun e w' => ∃ sb' O', e = .returned (ptr sb') ∧ NowV W0 w' O' t' sb' S ∧ ∀ t2, Step W0.heap.size O2 t2 w O' w' := by
  have HF := Lib.hid fn
  have HL := Lib.hid lo
  obtain ⟨n, g, iv⟩ := h.told
  have HI := Lib.hid iv
  have C1 := Lib.hid (pvrows h iv.is)
  clear h iv fn lo
  go_enter Try.func38, Try.ntmps38
  go_wp2_with fail
  refine (C1.out).mono ?_
  rintro e w5 ⟨A5, c5, rfl, _, _, ho, hb⟩
  have HO5 := Lib.hid ho
  have K4 := Lib.hid hb
  clear ho hb C1
  go_wp2
  go_ret
  obtain ⟨O1, m1, st1⟩ := fresh_marked HF.out HL.out.size K4.out HO5.out t'
  have z5 : W0.heap.size ≤ w5.heap.size := Nat.le_trans HL.out.size K4.out.size
  refine ⟨w5.heap.size, mark O1 t' w5.heap.size, rfl, ⟨⟨_, n, g, ⟨Head.new w5 O1 t' _ _, ⟨own_mono (World.ownsRow.alloc HO5.out _) HL.out.size, fun b hb => ?_⟩⟩, HI.out⟩, (Step.made (t := t') (st1 0).fin z5 (.cells #[.slice A5 n c5] 76) 0).fin, (HL.out.trans (K4.out.mono HL.out.size)).alloc z5 _⟩, fun t2 => (st1 t2).trans (Step.made (st1 t2).fin z5 _ t2)⟩
  have := m1 b hb
  exact ⟨(mark_ne _ _ (by omega)).trans this.1, by omega⟩
set_option maxHeartbeats 4000000 in
set_option maxRecDepth 100000 in
/-- what is asked may not be -/
theorem ptax_arg (p : Tq) (H : ¬ TArg p) :
    Calls Try.prog 25 #[ptr sb, .int .i64 p.book, .int .i64 p.perm, .int .i64 p.moved, .int .i64 p.cap, .int .i64 p.life, .int .i64 p.year, .int .i64 p.r] w fun e w' => e = .returned (.tuple #[txa 0 0 0 0 0 0 (.slice none 0 0), .pointer none, .int .i64 1]) ∧ Below w.heap.size w w' := by
  obtain ⟨book, perm, moved, cap, life, year, r⟩ := p
  dsimp only
  unfold TArg at H
  dsimp only at H
  rcases (show (cap < 0 ∨ 1000000 < cap) ∨ ((0 ≤ cap ∧ cap ≤ 1000000) ∧ (r < 0 ∨ 1000000 < r)) ∨ ((0 ≤ cap ∧ cap ≤ 1000000) ∧ (0 ≤ r ∧ r ≤ 1000000) ∧ (life < 0 ∨ 99 < life)) ∨ ((0 ≤ cap ∧ cap ≤ 1000000) ∧ (0 ≤ r ∧ r ≤ 1000000) ∧ (0 ≤ life ∧ life ≤ 99) ∧ (year < 0 ∨ 99 < year)) by omega) with q | ⟨q1, q⟩ | ⟨q1, q2, q⟩ | ⟨q1, q2, q3, q⟩
  all_goals
    clear H
    go_enter Try.func25, Try.ntmps25
    go_wp2_with (first | (go_at_call 19; (with_reducible refine (right_yes _ _ (by omega) (by omega)).mono ?_); rintro e w' ⟨rfl, rfl⟩) | (go_at_call 19; (with_reducible refine (right_no _ _ (by omega)).mono ?_); rintro e w' ⟨rfl, rfl⟩) | (go_at_call 36; (with_reducible refine (cuto_yes _ _ (by omega) (by omega)).mono ?_); rintro e w' ⟨rfl, rfl⟩) | (go_at_call 36; (with_reducible refine (cuto_no _ _ (by omega)).mono ?_); rintro e w' ⟨rfl, rfl⟩))
    exact bodyPost_ret (results_ctt rfl _ _ w.heap.size _ rfl (load_c (Head.new w (fun _ => 0) 2 _ _))) rfl ⟨rfl, (Below.refl _ _).alloc (Nat.le_refl _) _⟩
set_option maxHeartbeats 4000000 in
set_option maxRecDepth 100000 in
/-- the income is too great -/
theorem ptax_over (p : Tq) (hmv : -9223372036854775808 ≤ p.moved ∧ p.moved ≤ 9223372036854775807) (H : TArg p) (HJ : IncIs p.book p.perm p.moved 0 false) :
    Calls Try.prog 25 #[ptr sb, .int .i64 p.book, .int .i64 p.perm, .int .i64 p.moved, .int .i64 p.cap, .int .i64 p.life, .int .i64 p.year, .int .i64 p.r] w fun e w' => e = .returned (.tuple #[txa 0 0 0 0 0 0 (.slice none 0 0), .pointer none, .int .i64 6]) ∧ Below w.heap.size w w' := by
  obtain ⟨book, perm, moved, cap, life, year, r⟩ := p
  unfold TArg at H
  dsimp only at H HJ hmv ⊢
  obtain ⟨q1, q2, q3, q4⟩ := H
  have HI := Lib.hid HJ
  have HM := Lib.hid hmv
  have FN : Hid _ := Lib.hid (Head.new w (fun _ => 0) 2 #[.int .i64 0, .int .i64 0, .int .i64 0, .int .i64 0, .int .i64 0, .int .i64 0, .slice none 0 0] 39)
  have FW := FN.out
  clear HJ hmv FW
  go_enter Try.func25, Try.ntmps25
  go_wp2_with (first | (go_at_call 19; (with_reducible refine (right_yes _ _ (by omega) (by omega)).mono ?_); rintro e w' ⟨rfl, rfl⟩) | (go_at_call 19; (with_reducible refine (right_no _ _ (by omega)).mono ?_); rintro e w' ⟨rfl, rfl⟩) | (go_at_call 36; (with_reducible refine (cuto_yes _ _ (by omega) (by omega)).mono ?_); rintro e w' ⟨rfl, rfl⟩) | (go_at_call 36; (with_reducible refine (cuto_no _ _ (by omega)).mono ?_); rintro e w' ⟨rfl, rfl⟩))
  refine (pinc HI.out HM.out _).mono ?_
  rintro e w2 ⟨rfl, hb⟩
  have x0 := FN.out.below hb
  have B := Lib.hid (((Below.refl w.heap.size w).alloc (Nat.le_refl _) _).trans (hb.mono (by simp)))
  have r0 := x0.cell 0 _ rfl
  have r1 := x0.cell 1 _ rfl
  have r2 := x0.cell 2 _ rfl
  have r3 := x0.cell 3 _ rfl
  have r4 := x0.cell 4 _ rfl
  have r5 := x0.cell 5 _ rfl
  have r6 := x0.cell 6 _ rfl
  have h0 := x0.frz 0
  have h1 := x0.frz 1
  have h2 := x0.frz 2
  have h3 := x0.frz 3
  have h4 := x0.frz 4
  have h5 := x0.frz 5
  have h6 := x0.frz 6
  have z6 := Lib.hid ((((((((x0.set 0 (.int .i64 0) (by simp)).set 1 (.int .i64 0) (by simp)).set 2 (.int .i64 0) (by simp)).set 3 (.int .i64 0) (by simp)).set 4 (.int .i64 0) (by simp)).set 5 (.int .i64 0) (by simp)).set 6 (.slice none 0 0) (by simp)))
  clear x0 hb FN HI HM
  go_wp2
  exact bodyPost_ret (results_ctt rfl _ _ w.heap.size _ rfl (load_c z6.out)) rfl ⟨rfl, ((((((B.out.setCell (Nat.le_refl _) _).setCell (Nat.le_refl _) _).setCell (Nat.le_refl _) _).setCell (Nat.le_refl _) _).setCell (Nat.le_refl _) _).setCell (Nat.le_refl _) _).setCell (Nat.le_refl _) _⟩
set_option maxHeartbeats 4000000 in
set_option maxRecDepth 100000 in
theorem ptax_oko (h : NowV w0 w O t sb S) (iv : VInv S n g) (p : Tq) (hmv : -9223372036854775808 ≤ p.moved ∧ p.moved ≤ 9223372036854775807) (x : Tx) (H : TOk S n g p x S') :
    Calls Try.prog 25 #[ptr sb, .int .i64 p.book, .int .i64 p.perm, .int .i64 p.moved, .int .i64 p.cap, .int .i64 p.life, .int .i64 p.year, .int .i64 p.r] w fun e w' => ∃ sb' O' U c, e = .returned (.tuple #[txa x.inc x.exp x.used x.new x.txb x.tax (.slice U x.q c), ptr sb', .int .i64 0]) ∧ NowV w w' O' 1 sb' S' ∧ AtO w.heap.size O' w' U x.q x.u ∧ x.q ≤ c ∧ c ≤ maxLen ∧ Below w.heap.size w w' := by
  obtain ⟨book, perm, moved, cap, life, year, r⟩ := p
  obtain ⟨inc, ex, used, nw, txb, tax, q, u⟩ := x
  obtain ⟨hm, he, hu0, hu1, hn0, hn1, htx, b1, b2, b3, hq⟩ := H.bd iv
  clear b1 b2 b3
  obtain ⟨⟨q1, q2, q3, q4⟩, hi, ⟨m, h', tl, nx⟩, htb, hta⟩ := H
  have HE := Lib.hid tl.exp
  have HI := Lib.hid hi
  have HM := Lib.hid hmv
  unfold TNext at nx
  dsimp only at *
  unfold Mon at hm
  obtain ⟨hm1, hm2⟩ := hm
  have st1 := Step.made (t := 2) (Fin0.zero w.heap.size w) (Nat.le_refl _) (.cells #[.int .i64 0, .int .i64 0, .int .i64 0, .int .i64 0, .int .i64 0, .int .i64 0, .slice none 0 0] 39) 3
  have r1 := Head.new w (fun _ => 0) 2 #[.int .i64 0, .int .i64 0, .int .i64 0, .int .i64 0, .int .i64 0, .int .i64 0, .slice none 0 0] 39
  have HH := Lib.hid h
  obtain ⟨O2, hO2⟩ : ∃ O2, mark (fun _ => 0) 2 w.heap.size = O2 := ⟨_, rfl⟩
  rw [hO2] at st1 r1
  have lo0 := (Below.refl w.heap.size w).alloc (Nat.le_refl _) (.cells #[.int .i64 0, .int .i64 0, .int .i64 0, .int .i64 0, .int .i64 0, .int .i64 0, .slice none 0 0] 39)
  have R1 := Lib.hid r1
  have FN := Lib.hid st1.fin
  have LO := Lib.hid lo0
  have IV := Lib.hid iv
  have TL := Lib.hid tl
  have NX := Lib.hid nx
  have HT := Lib.hid (show txb = inc - used + nw ∧ tax = rof txb r from ⟨htb, hta⟩)
  have BD := Lib.hid (show 0 ≤ used ∧ used ≤ max inc 0 ∧ 0 ≤ nw ∧ nw ≤ 100000000000 ∧ txb = max inc 0 - used from ⟨hu0, hu1, hn0, hn1, htx⟩)
  clear h st1 r1 hO2 lo0 iv tl nx hi he hu0 hu1 hn0 hn1 htx htb hta hmv
  go_enter Try.func25, Try.ntmps25
  go_wp2_with (first | (go_at_call 19; (with_reducible refine (right_yes _ _ (by omega) (by omega)).mono ?_); rintro e w' ⟨rfl, rfl⟩) | (go_at_call 19; (with_reducible refine (right_no _ _ (by omega)).mono ?_); rintro e w' ⟨rfl, rfl⟩) | (go_at_call 36; (with_reducible refine (cuto_yes _ _ (by omega) (by omega)).mono ?_); rintro e w' ⟨rfl, rfl⟩) | (go_at_call 36; (with_reducible refine (cuto_no _ _ (by omega)).mono ?_); rintro e w' ⟨rfl, rfl⟩))
  refine (pinc HI.out HM.out _).mono ?_
  rintro e w4 ⟨rfl, hb4⟩
  have C4 := Lib.hid (nvcopy (HH.out.below (LO.out.trans (hb4.mono (by simp)))) w (FN.out.below hb4) (LO.out.trans (hb4.mono (by simp))) 1)
  have R4 := Lib.hid (R1.out.below hb4)
  clear hb4 R1 FN HI HM HH LO
  go_wp2_with fail
  refine (C4.out).mono ?_
  rintro e w5 ⟨sbk, O5, rfl, n5, st5⟩
  have R5 := Lib.hid (R4.out.step (st5 1) (by decide))
  have N5 := Lib.hid n5
  clear n5 st5 C4 R4
  go_wp2_with fail
  refine (pvexp N5.out (by decide) IV.out.is _).mono ?_
  rintro e w6 ⟨rfl, O6', n6, st6⟩
  rw [HE.out]
  obtain ⟨mb, hmb⟩ : ∃ mb, w6.heap.size = mb := ⟨_, rfl⟩
  have t6 := TXP.made n6 (R5.out.step st6 (by decide)) #[.int .i64 inc, .int .i64 ex, .int .i64 0, .int .i64 0, .int .i64 0, .int .i64 0, .slice none 0 0] 39
  rw [hmb] at t6
  obtain ⟨O6, hO6⟩ : ∃ O6, mark O6' 2 mb = O6 := ⟨_, rfl⟩
  obtain ⟨w7, hw7⟩ : ∃ w7, w6.alloc (.cells #[.int .i64 inc, .int .i64 ex, .int .i64 0, .int .i64 0, .int .i64 0, .int .i64 0, .slice none 0 0] 39) = w7 := ⟨_, rfl⟩
  have T7 := Lib.hid (show TXP w (w6.alloc (.cells #[.int .i64 inc, .int .i64 ex, .int .i64 0, .int .i64 (-inc), .int .i64 0, .int .i64 0, .slice none 0 0] 39)) O6 sbk mb (xpS S year) (txl 0 0 0 0 0 0 (.slice none 0 0)) (txl inc ex 0 (-inc) 0 0 (.slice none 0 0)) from by
    have t7 := TXP.made n6 (R5.out.step st6 (by decide)) #[.int .i64 inc, .int .i64 ex, .int .i64 0, .int .i64 (-inc), .int .i64 0, .int .i64 0, .slice none 0 0] 39
    rw [hmb, hO6] at t7
    exact t7)
  rw [hO6, hw7] at t6
  have T6 := Lib.hid (show TXP w w7 O6 sbk mb (xpS S year) (txl 0 0 0 0 0 0 (.slice none 0 0)) (txl inc ex 0 0 0 0 (.slice none 0 0)) from t6)
  have W7 := Lib.hid hw7
  have MB := Lib.hid hmb
  clear t6 n6 st6 N5 R5 hw7 hmb hO6 HE
  obtain ⟨e1, e2⟩ := HT.out
  have E2 := Lib.hid e2.symm
  subst e1
  clear e2 HT
  obtain ⟨u0, u1, n0, n1, u3⟩ := BD.out
  have u2 : used ≤ 100000000000 := by omega
  clear u1 u3 BD
  rcases NX.out with ⟨z, hqm, hu, hus, hnw, hS⟩ | ⟨z, rfl, hus, hnw, hS⟩ | ⟨z, rfl, hus, hnw, hae, hS⟩
  · subst hqm
    have HS := Lib.hid hS
    have HN := Lib.hid hnw
    have HU := Lib.hid hus
    have fv := floorV_in (N := inc) (cap := cap) z (by unfold Mon; omega) q1
    have CR := Lib.hid (pvrows T6.out.now TL.out.inv.is)
    have hin : ∀ j, j < q → 0 ≤ u j ∧ u j ≤ (h' j).a := fun j hj => by
      rw [hu]
      have := us_in (year := year) (room := floorV inc cap) (fun j hj => (TL.out.pos j hj).1) hj
      exact ⟨this.1, this.2.1⟩
    have HIN := Lib.hid hin
    have UU := Lib.hid hu
    clear hS hnw hus hin hu NX
    go_wp2_with fail
    rw [W7.out, MB.out]
    refine (CR.out).mono ?_
    rintro e w8 ⟨A8, c8, rfl, hc8, hm8, ho8, hb8⟩
    have T8 := Lib.hid (T6.out.below hb8)
    obtain ⟨_, _, ee, _, _, _, ha8⟩ := ho8.at ve_len
    injection ee with e1 _ e3
    subst e1 e3
    have CV := Lib.hid (puvec A8 q c8 h' year (floorV inc cap) w8 ha8 ⟨hc8, hm8⟩ (by omega) TL.out.pos (by omega))
    rw [← UU.out] at CV
    clear ho8 hb8 CR T6 hc8 hm8 UU ha8
    go_wp2_with (first | (go_at_call 42; (with_reducible refine (puroom _ _ _).mono ?_); rintro e w' ⟨rfl, rfl⟩))
    refine (CV.out).mono ?_
    rintro e w9 ⟨v9, rfl, ho9, hb9⟩
    obtain ⟨A9, c9, rfl, hc9, hm9, _⟩ := ho9.form
    have s9 := T8.out.below hb9
    have c6 := s9.mkg.cell 6 _ rfl
    have f6 := s9.mkg.frz 6
    have x9 := s9.set 6 (.slice A9 q c9) (by simp [txl])
    have T9 := Lib.hid (show TXP w (w9.setCell ⟨mb, 6, none⟩ (.slice A9 q c9)) O6 sbk mb (xpS S year) (txl 0 0 0 0 0 0 (.slice none 0 0)) (txl inc ex 0 0 0 0 (.slice A9 q c9)) from x9.1)
    have AT9 := Lib.hid ((AtO.of (b0 := w.heap.size) (w := w8) T8.out.now.low.size T8.out.now.fin ho9).step x9.2 (by decide))
    obtain ⟨w10, hw10⟩ : ∃ w10, w9.setCell ⟨mb, 6, none⟩ (.slice A9 q c9) = w10 := ⟨_, rfl⟩
    rw [hw10] at T9 AT9
    have W10 := Lib.hid hw10
    have CT := Lib.hid (puused A9 q c9 u w10 AT9.out.1 (by omega) (fun j hj => by have := HIN.out j hj; have := TL.out.pos j hj; omega))
    rw [← HU.out] at CT
    have c6' := T9.out.mkg.cell 6 _ rfl
    clear s9 x9 ho9 hb9 CV T8 hw10
    go_wp2_with fail
    rw [W10.out]
    refine (CT.out).mono ?_
    rintro e w11 ⟨rfl, hb11⟩
    have t11 := T9.out.below hb11
    have c2 := t11.mkg.cell 2 _ rfl
    have f2 := t11.mkg.frz 2
    have d6 := t11.mkg.cell 6 _ rfl
    have x11 := t11.set 2 (.int .i64 used) (by simp [txl])
    have T11 := Lib.hid (show TXP w (w11.setCell ⟨mb, 2, none⟩ (.int .i64 used)) O6 sbk mb (xpS S year) (txl 0 0 0 0 0 0 (.slice none 0 0)) (txl inc ex used 0 0 0 (.slice A9 q c9)) from x11.1)
    have AT11 := Lib.hid ((AT9.out.step (Step.of_below (t := 2) T9.out.now.fin hb11) (by decide)).step x11.2 (by decide))
    have CK := Lib.hid (pvtake (c := c9) x11.1.now (by decide) TL.out.inv.is AT11.out.1 (fun b off e => by rw [(AT11.out.2 b off e).2.2]; decide) 0 (.inl ⟨⟨rfl, HIN.out⟩, rfl⟩))
    clear t11 x11 hb11 T9 AT9 CT c6 c6' f6 W10 W7
    go_wp2_with fail
    refine (CK.out).mono ?_
    rintro e w12 ⟨rfl, O12, m12, st12⟩
    have e12 : tkS 0 (xpS S year) q h' u = S' := by rw [HS.out]; exact if_pos rfl
    rw [e12] at m12
    have T12 := Lib.hid (show TXP w w12 O12 sbk mb S' (txl 0 0 0 0 0 0 (.slice none 0 0)) (txl inc ex used nw 0 0 (.slice A9 q c9)) from by rw [HN.out]; exact T11.out.step st12 m12)
    have AT12 := Lib.hid (AT11.out.step st12 (by decide))
    clear CK e12 m12 st12 T11 AT11 c2 f2 d6 HIN HU HS HN
    have m0 := T12.out.mkg.cell 0 _ rfl
    have m1 := T12.out.mkg.cell 1 _ rfl
    have m2 := T12.out.mkg.cell 2 _ rfl
    have m3 := T12.out.mkg.cell 3 _ rfl
    have m4 := T12.out.mkg.cell 4 _ rfl
    have m5 := T12.out.mkg.cell 5 _ rfl
    have m6 := T12.out.mkg.cell 6 _ rfl
    have g4 := T12.out.mkg.frz 4
    have g5 := T12.out.mkg.frz 5
    have r0 := T12.out.res.cell 0 _ rfl
    have h0 := T12.out.res.frz 0
    have r1 := T12.out.res.cell 1 _ rfl
    have h1 := T12.out.res.frz 1
    have r2 := T12.out.res.cell 2 _ rfl
    have h2 := T12.out.res.frz 2
    have r3 := T12.out.res.cell 3 _ rfl
    have h3 := T12.out.res.frz 3
    have r4 := T12.out.res.cell 4 _ rfl
    have h4 := T12.out.res.frz 4
    have r5 := T12.out.res.cell 5 _ rfl
    have h5 := T12.out.res.frz 5
    have r6 := T12.out.res.cell 6 _ rfl
    have h6 := T12.out.res.frz 6
    have ne1 := T12.out.hne
    have ne2 := ne1.symm
    have TF := Lib.hid (T12.out.done AT12.out (inc - used + nw) tax)
    clear T12 AT12
    go_wp2_with (first | (go_at_call 46; (with_reducible refine (pof_at _ _ _ _ (by omega) (by omega) (by omega) (by omega) E2).mono ?_); rintro e w' ⟨rfl, rfl⟩))
    exact bodyPost_ret (results_ctt rfl _ _ w.heap.size _ rfl (load_c TF.out.1.res)) rfl ⟨sbk, O12, A9, c9, rfl, TF.out.1.now, TF.out.2, hc9, hm9, TF.out.1.now.low⟩
  · subst z hus hnw
    rw [show (0 : Int) - 0 + 0 = 0 from rfl] at E2
    have HS := Lib.hid hS
    clear NX hS
    go_wp2_with fail
    refine (pof_at 0 r tax _ (by omega) (by omega) (by omega) (by omega) E2).mono ?_
    rintro e w8 ⟨rfl, rfl⟩
    rw [W7.out, MB.out]
    have hS := HS.out.symm
    have m0 := T6.out.mkg.cell 0 _ rfl
    have m1 := T6.out.mkg.cell 1 _ rfl
    have m2 := T6.out.mkg.cell 2 _ rfl
    have m3 := T6.out.mkg.cell 3 _ rfl
    have m4 := T6.out.mkg.cell 4 _ rfl
    have m5 := T6.out.mkg.cell 5 _ rfl
    have m6 := T6.out.mkg.cell 6 _ rfl
    have g4 := T6.out.mkg.frz 4
    have g5 := T6.out.mkg.frz 5
    have r0 := T6.out.res.cell 0 _ rfl
    have h0 := T6.out.res.frz 0
    have r1 := T6.out.res.cell 1 _ rfl
    have h1 := T6.out.res.frz 1
    have r2 := T6.out.res.cell 2 _ rfl
    have h2 := T6.out.res.frz 2
    have r3 := T6.out.res.cell 3 _ rfl
    have h3 := T6.out.res.frz 3
    have r4 := T6.out.res.cell 4 _ rfl
    have h4 := T6.out.res.frz 4
    have r5 := T6.out.res.cell 5 _ rfl
    have h5 := T6.out.res.frz 5
    have r6 := T6.out.res.cell 6 _ rfl
    have h6 := T6.out.res.frz 6
    have ne1 := T6.out.hne
    have ne2 := ne1.symm
    have TF := Lib.hid (T6.out.ends (AtO.none (b0 := w.heap.size) O6 w7 u) tax)
    clear T6
    go_wp2
    exact bodyPost_ret (results_ctt rfl _ _ w.heap.size _ rfl (load_c TF.out.1.res)) rfl ⟨sbk, O6, none, 0, rfl, hS ▸ TF.out.1.now, TF.out.2, Nat.le_refl _, Nat.zero_le _, TF.out.1.now.low⟩
  · have i1 : ¬ 0 < inc := by omega
    have n2 : -inc = nw := by omega
    have HUS := Lib.hid hus
    have HS := Lib.hid hS
    have N2 := Lib.hid n2
    have yb : 0 ≤ year + life ∧ year + life ≤ 198 := by omega
    rw [n2] at hae T7
    have CA := Lib.hid (pvadd T7.out.now (by decide) TL.out.inv.is _ _ _ 0 hae)
    clear hus hnw hS NX hae T6
    obtain rfl := MB.out
    clear W7 MB
    go_wp2_with fail
    refine (CA.out).mono ?_
    rintro e w12 ⟨rfl, O12, m12, st12⟩
    have e12 : adS 0 (xpS S year) (year + life) year nw = S' := by rw [HS.out, N2.out]; exact if_pos rfl
    rw [e12] at m12
    have T12 := Lib.hid (show TXP w w12 O12 sbk _ S' (txl 0 0 0 0 0 0 (.slice none 0 0)) (txl inc ex used nw 0 0 (.slice none 0 0)) from by rw [HUS.out]; exact T7.out.step st12 m12)
    have AT12 := Lib.hid (AtO.none (b0 := w.heap.size) O12 w12 u)
    obtain ⟨mb, hmb⟩ : ∃ mb, w6.heap.size = mb := ⟨_, rfl⟩
    rw [hmb] at T12 ⊢
    clear CA e12 m12 st12 T7 HUS HS N2 n2 hmb
    have m0 := T12.out.mkg.cell 0 _ rfl
    have m1 := T12.out.mkg.cell 1 _ rfl
    have m2 := T12.out.mkg.cell 2 _ rfl
    have m3 := T12.out.mkg.cell 3 _ rfl
    have m4 := T12.out.mkg.cell 4 _ rfl
    have m5 := T12.out.mkg.cell 5 _ rfl
    have m6 := T12.out.mkg.cell 6 _ rfl
    have g4 := T12.out.mkg.frz 4
    have g5 := T12.out.mkg.frz 5
    have r0 := T12.out.res.cell 0 _ rfl
    have h0 := T12.out.res.frz 0
    have r1 := T12.out.res.cell 1 _ rfl
    have h1 := T12.out.res.frz 1
    have r2 := T12.out.res.cell 2 _ rfl
    have h2 := T12.out.res.frz 2
    have r3 := T12.out.res.cell 3 _ rfl
    have h3 := T12.out.res.frz 3
    have r4 := T12.out.res.cell 4 _ rfl
    have h4 := T12.out.res.frz 4
    have r5 := T12.out.res.cell 5 _ rfl
    have h5 := T12.out.res.frz 5
    have r6 := T12.out.res.cell 6 _ rfl
    have h6 := T12.out.res.frz 6
    have ne1 := T12.out.hne
    have ne2 := ne1.symm
    have TF := Lib.hid (T12.out.done AT12.out (inc - used + nw) tax)
    clear T12 AT12
    go_wp2_with (first | (go_at_call 46; (with_reducible refine (pof_at _ _ _ _ (by omega) (by omega) (by omega) (by omega) E2).mono ?_); rintro e w' ⟨rfl, rfl⟩))
    exact bodyPost_ret (results_ctt rfl _ _ w.heap.size _ rfl (load_c TF.out.1.res)) rfl ⟨sbk, O12, none, 0, rfl, TF.out.1.now, TF.out.2, Nat.le_refl _, Nat.zero_le _, TF.out.1.now.low⟩
set_option maxRecDepth 100000 in
theorem ptax_ok (h : NowV w0 w O t sb S) (iv : VInv S n g) (p : Tq) (hmv : -9223372036854775808 ≤ p.moved ∧ p.moved ≤ 9223372036854775807) (x : Tx) (H : TOk S n g p x S') :
    Calls Try.prog 25 #[ptr sb, .int .i64 p.book, .int .i64 p.perm, .int .i64 p.moved, .int .i64 p.cap, .int .i64 p.life, .int .i64 p.year, .int .i64 p.r] w fun e w' => ∃ sb' O' U c, e = .returned (.tuple #[txa x.inc x.exp x.used x.new x.txb x.tax (.slice U x.q c), ptr sb', .int .i64 0]) ∧ NowV w w' O' 1 sb' S' ∧ At w' U x.q x.u ∧ x.q ≤ c ∧ Below w.heap.size w w' :=
  (ptax_oko h iv p hmv x H).mono fun _ _ ⟨sb', O', U, c, h1, h2, h3, h4, _, h5⟩ => ⟨sb', O', U, c, h1, h2, h3.1, h4, h5⟩
set_option maxHeartbeats 8000000 in
set_option maxRecDepth 100000 in
/-- the loss may not be added -/
theorem ptax_add (h : NowV w0 w O t sb S) (iv : VInv S n g) (p : Tq) (hmv : -9223372036854775808 ≤ p.moved ∧ p.moved ≤ 9223372036854775807) {inc ex er : Int} {m : Nat} {h' : Nat → Bk} (H : TArg p) (hi : IncIs p.book p.perm p.moved inc true) (hN : inc < 0) (tl : TLeft S n g p.year m h' ex) (ha : AErr (xpS S p.year) m (btot h' m) (p.year + p.life) p.year (-inc) er) (h0 : er ≠ 0) :
    Calls Try.prog 25 #[ptr sb, .int .i64 p.book, .int .i64 p.perm, .int .i64 p.moved, .int .i64 p.cap, .int .i64 p.life, .int .i64 p.year, .int .i64 p.r] w fun e w' => e = .returned (.tuple #[txa 0 0 0 0 0 0 (.slice none 0 0), .pointer none, .int .i64 er]) ∧ Below w.heap.size w w' := by
  obtain ⟨book, perm, moved, cap, life, year, r⟩ := p
  obtain ⟨hm, hj⟩ := inc_mon hi
  clear hj
  obtain ⟨q1, q2, q3, q4⟩ := H
  have HE := Lib.hid tl.exp
  have HI := Lib.hid hi
  have HM := Lib.hid hmv
  dsimp only at *
  unfold Mon at hm
  obtain ⟨hm1, hm2⟩ := hm
  have st1 := Step.made (t := 2) (Fin0.zero w.heap.size w) (Nat.le_refl _) (.cells #[.int .i64 0, .int .i64 0, .int .i64 0, .int .i64 0, .int .i64 0, .int .i64 0, .slice none 0 0] 39) 3
  have r1 := Head.new w (fun _ => 0) 2 #[.int .i64 0, .int .i64 0, .int .i64 0, .int .i64 0, .int .i64 0, .int .i64 0, .slice none 0 0] 39
  have HH := Lib.hid h
  obtain ⟨O2, hO2⟩ : ∃ O2, mark (fun _ => 0) 2 w.heap.size = O2 := ⟨_, rfl⟩
  rw [hO2] at st1 r1
  have lo0 := (Below.refl w.heap.size w).alloc (Nat.le_refl _) (.cells #[.int .i64 0, .int .i64 0, .int .i64 0, .int .i64 0, .int .i64 0, .int .i64 0, .slice none 0 0] 39)
  have R1 := Lib.hid r1
  have FN := Lib.hid st1.fin
  have LO := Lib.hid lo0
  have IV := Lib.hid iv
  have TL := Lib.hid tl
  clear h st1 r1 hO2 lo0 iv tl hi hmv
  go_enter Try.func25, Try.ntmps25
  go_wp2_with (first | (go_at_call 19; (with_reducible refine (right_yes _ _ (by omega) (by omega)).mono ?_); rintro e w' ⟨rfl, rfl⟩) | (go_at_call 19; (with_reducible refine (right_no _ _ (by omega)).mono ?_); rintro e w' ⟨rfl, rfl⟩) | (go_at_call 36; (with_reducible refine (cuto_yes _ _ (by omega) (by omega)).mono ?_); rintro e w' ⟨rfl, rfl⟩) | (go_at_call 36; (with_reducible refine (cuto_no _ _ (by omega)).mono ?_); rintro e w' ⟨rfl, rfl⟩))
  refine (pinc HI.out HM.out _).mono ?_
  rintro e w4 ⟨rfl, hb4⟩
  have C4 := Lib.hid (nvcopy (HH.out.below (LO.out.trans (hb4.mono (by simp)))) w (FN.out.below hb4) (LO.out.trans (hb4.mono (by simp))) 1)
  have R4 := Lib.hid (R1.out.below hb4)
  clear hb4 R1 FN HI HM HH LO
  go_wp2_with fail
  refine (C4.out).mono ?_
  rintro e w5 ⟨sbk, O5, rfl, n5, st5⟩
  have R5 := Lib.hid (R4.out.step (st5 1) (by decide))
  have N5 := Lib.hid n5
  clear n5 st5 C4 R4
  go_wp2_with fail
  refine (pvexp N5.out (by decide) IV.out.is _).mono ?_
  rintro e w6 ⟨rfl, O6', n6, st6⟩
  rw [HE.out]
  obtain ⟨nw, hnw⟩ : ∃ nw, -inc = nw := ⟨_, rfl⟩
  rw [hnw] at ha
  have t6 := TXP.made n6 (R5.out.step st6 (by decide)) #[.int .i64 inc, .int .i64 ex, .int .i64 0, .int .i64 nw, .int .i64 0, .int .i64 0, .slice none 0 0] 39
  obtain ⟨O6, hO6⟩ : ∃ O6, mark O6' 2 w6.heap.size = O6 := ⟨_, rfl⟩
  rw [hO6] at t6
  have T7 := Lib.hid (show TXP w _ O6 sbk _ (xpS S year) (txl 0 0 0 0 0 0 (.slice none 0 0)) (txl inc ex 0 nw 0 0 (.slice none 0 0)) from t6)
  clear t6 n6 st6 N5 R5 hO6 HE
  have i1 : ¬ 0 < inc := by omega
  have yb : 0 ≤ year + life ∧ year + life ≤ 198 := by omega
  have CA := Lib.hid (pvadd T7.out.now (by decide) TL.out.inv.is _ _ _ er ha)
  have e0 : (er == 0) = false := by simpa using h0
  clear ha
  go_wp2_with fail
  refine (CA.out).mono ?_
  rintro e w12 ⟨rfl, O12, m12, st12⟩
  have T12 := Lib.hid (T7.out.step st12 m12)
  clear CA m12 st12 T7
  have r0 := T12.out.res.cell 0 _ rfl
  have r1 := T12.out.res.cell 1 _ rfl
  have r2 := T12.out.res.cell 2 _ rfl
  have r3 := T12.out.res.cell 3 _ rfl
  have r4 := T12.out.res.cell 4 _ rfl
  have r5 := T12.out.res.cell 5 _ rfl
  have r6 := T12.out.res.cell 6 _ rfl
  have h0 := T12.out.res.frz 0
  have h1 := T12.out.res.frz 1
  have h2 := T12.out.res.frz 2
  have h3 := T12.out.res.frz 3
  have h4 := T12.out.res.frz 4
  have h5 := T12.out.res.frz 5
  have h6 := T12.out.res.frz 6
  have z0 := T12.out.setR 0 (.int .i64 0) (by simp [txl])
  have z1 := z0.1.setR 1 (.int .i64 0) (by simp [txl])
  have z2 := z1.1.setR 2 (.int .i64 0) (by simp [txl])
  have z3 := z2.1.setR 3 (.int .i64 0) (by simp [txl])
  have z4 := z3.1.setR 4 (.int .i64 0) (by simp [txl])
  have z5 := z4.1.setR 5 (.int .i64 0) (by simp [txl])
  have z6 := z5.1.setR 6 (.slice none 0 0) (by simp [txl])
  have TF := Lib.hid (show TXP w _ O12 sbk _ _ (txl 0 0 0 0 0 0 (.slice none 0 0)) _ from z6.1)
  clear z0 z1 z2 z3 z4 z5 z6 T12
  go_wp2
  exact bodyPost_ret (results_ctt rfl _ _ w.heap.size _ rfl (load_c TF.out.res)) rfl ⟨rfl, TF.out.now.low⟩
/-- why there is none -/
theorem ptax_no (h : NowV w0 w O t sb S) (iv : VInv S n g) (p : Tq) (hmv : -9223372036854775808 ≤ p.moved ∧ p.moved ≤ 9223372036854775807) {er : Int} (H : TNo S n g p er) :
    Calls Try.prog 25 #[ptr sb, .int .i64 p.book, .int .i64 p.perm, .int .i64 p.moved, .int .i64 p.cap, .int .i64 p.life, .int .i64 p.year, .int .i64 p.r] w fun e w' => e = .returned (.tuple #[txa 0 0 0 0 0 0 (.slice none 0 0), .pointer none, .int .i64 er]) ∧ Below w.heap.size w w' := by
  cases H with
  | arg h1 => exact ptax_arg p h1
  | over h1 h2 => exact ptax_over p hmv h1 h2
  | add h1 h2 h3 h4 h5 h6 => exact ptax_add h iv p hmv h1 h2 h3 h4 h5 h6
end
end Go.Proofs.Ytmlafdehhbhbiaa
