/- The document's own tax of a period: a contract. -/
import Derived.Test.YtmeljcogoeghaaaTxMem
import Derived.BigQuiet
import Derived.Deep.QuietTactic
import Derived.Deep.RegionHeld3
namespace Go.Proofs.Ytmeljcogoeghaaa
open Go.RowKit
section
variable {w0 w : World} {O : Nat → Nat} {t sb n : Nat} {S S' : Int → Int → Int} {g : Nat → Bk}
set_option maxHeartbeats 4000000 in
set_option maxRecDepth 100000 in
/-- what is asked may not be -/
theorem rtax_arg (p : Tq) (H : ¬ TArg p) :
    Calls Try.prog 20 #[ptr sb, .int .i64 p.book, .int .i64 p.perm, .int .i64 p.moved, .int .i64 p.cap, .int .i64 p.life, .int .i64 p.year, .int .i64 p.r] w fun e w' => e = .returned (.tuple #[txa 0 0 0 0 0 0 (.slice none 0 0), .pointer none, .int .i64 1]) ∧ Below w.heap.size w w' := by
  obtain ⟨book, perm, moved, cap, life, year, r⟩ := p
  dsimp only
  unfold TArg at H
  dsimp only at H
  rcases (show (cap < 0 ∨ 1000000 < cap) ∨ ((0 ≤ cap ∧ cap ≤ 1000000) ∧ (r < 0 ∨ 1000000 < r)) ∨ ((0 ≤ cap ∧ cap ≤ 1000000) ∧ (0 ≤ r ∧ r ≤ 1000000) ∧ (life < 0 ∨ 99 < life)) ∨ ((0 ≤ cap ∧ cap ≤ 1000000) ∧ (0 ≤ r ∧ r ≤ 1000000) ∧ (0 ≤ life ∧ life ≤ 99) ∧ (year < 0 ∨ 99 < year)) by omega) with q | ⟨q1, q⟩ | ⟨q1, q2, q⟩ | ⟨q1, q2, q3, q⟩
  all_goals
    clear H
    go_enter Try.func20, Try.ntmps20
    go_wp2_with (first | (go_at_call 40; (with_reducible refine (rrt_yes _ _ (by omega) (by omega)).mono ?_); rintro e w' ⟨rfl, rfl⟩) | (go_at_call 40; (with_reducible refine (rrt_no _ _ (by omega)).mono ?_); rintro e w' ⟨rfl, rfl⟩) | (go_at_call 41; (with_reducible refine (ryr_yes _ _ (by omega) (by omega)).mono ?_); rintro e w' ⟨rfl, rfl⟩) | (go_at_call 41; (with_reducible refine (ryr_no _ _ (by omega)).mono ?_); rintro e w' ⟨rfl, rfl⟩))
    exact bodyPost_ret (results_ctt rfl _ _ w.heap.size _ rfl (load_t (Head.new w (fun _ => 0) 2 _ _))) rfl ⟨rfl, (Below.refl _ _).alloc (Nat.le_refl _) _⟩
set_option maxHeartbeats 4000000 in
set_option maxRecDepth 100000 in
/-- the income is too great -/
theorem rtax_over (p : Tq) (H : TArg p) (HI : IncIs p.book p.perm p.moved 0 false) :
    Calls Try.prog 20 #[ptr sb, .int .i64 p.book, .int .i64 p.perm, .int .i64 p.moved, .int .i64 p.cap, .int .i64 p.life, .int .i64 p.year, .int .i64 p.r] w fun e w' => e = .returned (.tuple #[txa 0 0 0 0 0 0 (.slice none 0 0), .pointer none, .int .i64 6]) ∧ Below w.heap.size w w' := by
  obtain ⟨book, perm, moved, cap, life, year, r⟩ := p
  unfold TArg at H
  dsimp only at H HI ⊢
  obtain ⟨q1, q2, q3, q4⟩ := H
  have HI' := Lib.hid HI
  clear HI
  go_enter Try.func20, Try.ntmps20
  go_wp2_with (first | (go_at_call 40; (with_reducible refine (rrt_yes _ _ (by omega) (by omega)).mono ?_); rintro e w' ⟨rfl, rfl⟩) | (go_at_call 40; (with_reducible refine (rrt_no _ _ (by omega)).mono ?_); rintro e w' ⟨rfl, rfl⟩) | (go_at_call 41; (with_reducible refine (ryr_yes _ _ (by omega) (by omega)).mono ?_); rintro e w' ⟨rfl, rfl⟩) | (go_at_call 41; (with_reducible refine (ryr_no _ _ (by omega)).mono ?_); rintro e w' ⟨rfl, rfl⟩) | (go_at_call 42; (with_reducible refine (rinc HI'.out _).mono ?_); rintro e w' ⟨rfl, rfl⟩))
  exact bodyPost_ret (results_ctt rfl _ _ w.heap.size _ rfl (load_t (Head.new w (fun _ => 0) 2 _ _))) rfl ⟨rfl, (Below.refl _ _).alloc (Nat.le_refl _) _⟩
set_option maxHeartbeats 4000000 in
set_option maxRecDepth 100000 in
theorem rtax_ok (h : NowL w0 w O t sb S) (iv : VInv S n g) (p : Tq) (x : Tx) (H : TOk S n g p x S') :
    Calls Try.prog 20 #[ptr sb, .int .i64 p.book, .int .i64 p.perm, .int .i64 p.moved, .int .i64 p.cap, .int .i64 p.life, .int .i64 p.year, .int .i64 p.r] w fun e w' => ∃ sb' O' U c, e = .returned (.tuple #[txa x.inc x.exp x.used x.new x.txb x.tax (.slice U x.q c), ptr sb', .int .i64 0]) ∧ NowL w w' O' 1 sb' S' ∧ At w' U x.q x.u ∧ x.q ≤ c ∧ Below w.heap.size w w' := by
  obtain ⟨book, perm, moved, cap, life, year, r⟩ := p
  obtain ⟨inc, ex, used, nw, txb, tax, q, u⟩ := x
  obtain ⟨hm, he, hu0, hu1, hn0, hn1, htx, b1, b2, b3, hq⟩ := H.bd iv
  clear b1 b2 b3
  obtain ⟨⟨q1, q2, q3, q4⟩, hi, ⟨m, h', tl, nx⟩, htb, hta⟩ := H
  have HE := Lib.hid tl.exp
  have HI := Lib.hid hi
  unfold TNext at nx
  dsimp only at *
  unfold Mon at hm
  obtain ⟨hm1, hm2⟩ := hm
  obtain ⟨O2, fn, r1, k1⟩ := two_heads w [.int .i64 0, .int .i64 0, .int .i64 0, .int .i64 0, .int .i64 0, .int .i64 0, .slice none 0 0] [.int .i64 inc, .int .i64 0, .int .i64 0, .int .i64 0, .int .i64 0, .int .i64 0, .slice none 0 0] 48 48
  have lo0 := (Below.refl w.heap.size w).alloc (Nat.le_refl _) (.cells #[.int .i64 0, .int .i64 0, .int .i64 0, .int .i64 0, .int .i64 0, .int .i64 0, .slice none 0 0] 48)
  have lo1 := lo0.alloc lo0.size (.cells #[.int .i64 inc, .int .i64 0, .int .i64 0, .int .i64 0, .int .i64 0, .int .i64 0, .slice none 0 0] 48)
  have CC := Lib.hid (nlcopy (h.below lo1) w fn lo1 1)
  have R1 := Lib.hid r1
  have K1 := Lib.hid k1
  have IV := Lib.hid iv
  have TL := Lib.hid tl
  have NX := Lib.hid nx
  have HT := Lib.hid (show txb = inc - used + nw ∧ tax = rof txb r from ⟨htb, hta⟩)
  have BD := Lib.hid (show 0 ≤ used ∧ used ≤ max inc 0 ∧ 0 ≤ nw ∧ nw ≤ 100000000000 ∧ txb = max inc 0 - used from ⟨hu0, hu1, hn0, hn1, htx⟩)
  clear h fn r1 k1 lo0 lo1 iv tl nx hi he hu0 hu1 hn0 hn1 htx htb hta
  go_enter Try.func20, Try.ntmps20
  go_wp2_with (first | (go_at_call 40; (with_reducible refine (rrt_yes _ _ (by omega) (by omega)).mono ?_); rintro e w' ⟨rfl, rfl⟩) | (go_at_call 40; (with_reducible refine (rrt_no _ _ (by omega)).mono ?_); rintro e w' ⟨rfl, rfl⟩) | (go_at_call 41; (with_reducible refine (ryr_yes _ _ (by omega) (by omega)).mono ?_); rintro e w' ⟨rfl, rfl⟩) | (go_at_call 41; (with_reducible refine (ryr_no _ _ (by omega)).mono ?_); rintro e w' ⟨rfl, rfl⟩) | (go_at_call 42; (with_reducible refine (rinc HI.out _).mono ?_); rintro e w' ⟨rfl, rfl⟩))
  refine (CC.out).mono ?_
  rintro e w5 ⟨sbk, O5, rfl, n5, st5⟩
  have T5 := Lib.hid (show TXS w w5 O5 sbk S (txl 0 0 0 0 0 0 (.slice none 0 0)) (txl inc 0 0 0 0 0 (.slice none 0 0)) from ⟨n5, R1.out.step (st5 1) (by decide), K1.out.step (st5 1) (by decide)⟩)
  clear n5 st5 CC R1 K1
  go_wp2_with fail
  refine (nlexp T5.out.now (by decide) IV.out.is _).mono ?_
  rintro e w6 ⟨rfl, O6, n6, st6⟩
  rw [HE.out]
  have t6 := T5.out.step st6 n6
  have c1 := t6.mkg.cell 1 _ rfl
  have f1 := t6.mkg.frz 1
  have T6 := Lib.hid (show TXS w (w6.setCell ⟨w.heap.size + 1, 1, none⟩ (.int .i64 ex)) O6 sbk (xpS S year) (txl 0 0 0 0 0 0 (.slice none 0 0)) (txl inc ex 0 0 0 0 (.slice none 0 0)) from (t6.set 1 (.int .i64 ex) (by simp [txl])).1)
  clear t6 n6 st6 T5
  obtain ⟨w7, hw7⟩ : ∃ w7, w6.setCell ⟨w.heap.size + 1, 1, none⟩ (.int .i64 ex) = w7 := ⟨_, rfl⟩
  rw [hw7] at T6
  have W7 := Lib.hid hw7
  clear hw7
  obtain ⟨e1, e2⟩ := HT.out
  have E2 := Lib.hid e2.symm
  subst e1
  clear e2 HT
  obtain ⟨u0, u1, n0, n1, u3⟩ := BD.out
  have u2 : used ≤ 100000000000 := by omega
  clear u1 u3 BD
  rcases NX.out with ⟨z, hqm, hu, hus, hnw, hS⟩ | ⟨z, rfl, hus, hnw, hS⟩ | ⟨z, rfl, hus, hnw, hae, hS⟩
  · subst hqm
    have HS := Lib.hid hS
    have HN := Lib.hid hnw
    have HU := Lib.hid hus
    have fv := floorV_in (N := inc) (cap := cap) z (by unfold Mon; omega) q1
    obtain ⟨v7, n7, g7, s7, iv7⟩ := T6.out.now.st
    obtain ⟨hq7, eg⟩ := iv7.is.uniq TL.out.inv.is
    subst hq7
    obtain ⟨A7, c7, rfl, hc7, hm7, _, ha7⟩ := s7.at
    have k0 := s7.hd.c0
    have c6 := T6.out.mkg.cell 6 _ rfl
    have f6 := T6.out.mkg.frz 6
    have lt6 := T6.out.mkg.lt
    have hne : ¬ w.heap.size + 1 = sbk := fun e => by have a := T6.out.mkg.tag; rw [e, s7.hd.tag] at a; cases a
    have CV := Lib.hid (rvec A7 n7 c7 h' year (floorV inc cap) w7.drew ((ha7.ext eg).below (below_drew w7)) (by omega) TL.out.pos (by omega))
    rw [← hu] at CV
    have hin : ∀ j, j < n7 → 0 ≤ u j ∧ u j ≤ (h' j).a := fun j hj => by
      rw [hu]
      have := us_in (year := year) (room := floorV inc cap) (fun j hj => (TL.out.pos j hj).1) hj
      exact ⟨this.1, this.2.1⟩
    have HIN := Lib.hid hin
    have FZ := Lib.hid fun w8 (k : Below w7.drew.heap.size w7.drew w8) => And.intro (cell_keep (w := w7.drew) k0 k) (And.intro (cell_keep (w := w7.drew) c6 k) (fz_keep (w := w7.drew) f6 lt6 k))
    clear hS hnw hus fv s7 iv7 eg ha7 hin hu NX
    go_wp2_with fail
    rw [W7.out]
    clear c1 f1 W7
    go_region_held3 (fun w' => w'.cell? ⟨sbk, 0, none⟩ = some (.slice A7 n7 c7)) (first | go_keep) (first | (go_at_call 46; (with_reducible refine (rroom _ _ _).mono ?_); rintro e w' ⟨rfl, rfl⟩) | (go_at_call 45; (refine (CV.out).mono ?_); rintro e w8 ⟨v8, rfl, ho8, hb8⟩; obtain ⟨A8, c8, rfl, hc8, hm8, _⟩ := ho8.form; obtain ⟨d0, d1, d2⟩ := FZ.out _ hb8; have HO8 := Lib.hid ho8; have HB8 := Lib.hid hb8; clear ho8 hb8))
    have s8 := T6.out.below (((below_drew w7).trans HB8.out))
    have x8 := s8.set 6 (.slice A8 n7 c8) (by simp [txl])
    have T8 := Lib.hid (show TXS w (w8.setCell ⟨w.heap.size + 1, 6, none⟩ (.slice A8 n7 c8)) O6 sbk (xpS S year) (txl 0 0 0 0 0 0 (.slice none 0 0)) (txl inc ex 0 0 0 0 (.slice A8 n7 c8)) from x8.1)
    have AT8 := Lib.hid ((AtO.of (w := w7.drew) T6.out.now.fin HO8.out).step x8.2 (by decide))
    clear s8 x8 HO8 HB8 FZ CV k0 c6 f6 lt6 hne d0 d1 d2 T6
    obtain ⟨w9, hw9⟩ : ∃ w9, w8.setCell ⟨w.heap.size + 1, 6, none⟩ (.slice A8 n7 c8) = w9 := ⟨_, rfl⟩
    rw [hw9] at T8 AT8 ⊢
    clear hw9
    have c6 := T8.out.mkg.cell 6 _ rfl
    have CT := Lib.hid (rtotal A8 n7 c8 u w9 AT8.out.1 (by omega) (fun j hj => by have := HIN.out j hj; have := TL.out.pos j hj; omega))
    rw [← HU.out] at CT
    go_wp2_with fail
    refine (CT.out).mono ?_
    rintro e w10 ⟨rfl, hb10⟩
    have t10 := T8.out.below hb10
    have c2 := t10.mkg.cell 2 _ rfl
    have f2 := t10.mkg.frz 2
    have d6 := t10.mkg.cell 6 _ rfl
    have x10 := t10.set 2 (.int .i64 used) (by simp [txl])
    have T10 := Lib.hid (show TXS w (w10.setCell ⟨w.heap.size + 1, 2, none⟩ (.int .i64 used)) O6 sbk (xpS S year) (txl 0 0 0 0 0 0 (.slice none 0 0)) (txl inc ex used 0 0 0 (.slice A8 n7 c8)) from x10.1)
    have AT10 := Lib.hid ((AT8.out.step (Step.of_below (t := 2) T8.out.now.fin hb10) (by decide)).step x10.2 (by decide))
    have CK := Lib.hid (nltake (c := c8) x10.1.now (by decide) TL.out.inv.is AT10.out.1 (by omega) 0 (.inl ⟨⟨rfl, HIN.out⟩, rfl⟩))
    clear t10 x10 hb10 T8 AT8 CT c6
    go_wp2_with fail
    refine (CK.out).mono ?_
    rintro e w12 ⟨rfl, O12, m12, st12⟩
    have e12 : tkS 0 (xpS S year) n7 h' u = S' := by rw [HS.out]; exact if_pos rfl
    rw [e12] at m12
    have T12 := Lib.hid (show TXS w w12 O12 sbk S' (txl 0 0 0 0 0 0 (.slice none 0 0)) (txl inc ex used nw 0 0 (.slice A8 n7 c8)) from by rw [HN.out]; exact T10.out.step st12 m12)
    have AT12 := Lib.hid (AT10.out.step st12 (by decide))
    clear CK e12 m12 st12 T10 AT10 c2 f2 d6 HIN HU HS HN
    have m0 := T12.out.mkg.cell 0 _ rfl
    have m1 := T12.out.mkg.cell 1 _ rfl
    have m2 := T12.out.mkg.cell 2 _ rfl
    have m3 := T12.out.mkg.cell 3 _ rfl
    have m4 := T12.out.mkg.cell 4 _ rfl
    have m5 := T12.out.mkg.cell 5 _ rfl
    have m6 := T12.out.mkg.cell 6 _ rfl
    have g4 := T12.out.mkg.frz 4
    have g5 := T12.out.mkg.frz 5
    have r0 := T12.out.res.cell 0 _ rfl
    have h0 := T12.out.res.frz 0
    have r1 := T12.out.res.cell 1 _ rfl
    have h1 := T12.out.res.frz 1
    have r2 := T12.out.res.cell 2 _ rfl
    have h2 := T12.out.res.frz 2
    have r3 := T12.out.res.cell 3 _ rfl
    have h3 := T12.out.res.frz 3
    have r4 := T12.out.res.cell 4 _ rfl
    have h4 := T12.out.res.frz 4
    have r5 := T12.out.res.cell 5 _ rfl
    have h5 := T12.out.res.frz 5
    have r6 := T12.out.res.cell 6 _ rfl
    have h6 := T12.out.res.frz 6
    have y1 := T12.out.set 4 (.int .i64 (inc - used + nw)) (by simp [txl])
    have y2 := y1.1.set 5 (.int .i64 tax) (by simp [txl])
    have z0 := y2.1.setR 0 (.int .i64 inc) (by simp [txl])
    have z1 := z0.1.setR 1 (.int .i64 ex) (by simp [txl])
    have z2 := z1.1.setR 2 (.int .i64 used) (by simp [txl])
    have z3 := z2.1.setR 3 (.int .i64 nw) (by simp [txl])
    have z4 := z3.1.setR 4 (.int .i64 (inc - used + nw)) (by simp [txl])
    have z5 := z4.1.setR 5 (.int .i64 tax) (by simp [txl])
    have z6 := z5.1.setR 6 (.slice A8 n7 c8) (by simp [txl])
    have TF := Lib.hid (show TXS w _ O12 sbk S' (txl inc ex used nw (inc - used + nw) tax (.slice A8 n7 c8)) _ from z6.1)
    have ATF := Lib.hid (((((((((AT12.out.step y1.2 (by decide)).step y2.2 (by decide)).step z0.2 (by decide)).step z1.2 (by decide)).step z2.2 (by decide)).step z3.2 (by decide)).step z4.2 (by decide)).step z5.2 (by decide)).step z6.2 (by decide))
    clear y1 y2 z0 z1 z2 z3 z4 z5 z6 T12 AT12
    go_wp2_with (first | (go_at_call 49; (with_reducible refine (rpart_v _ _ _ (by omega) (by omega) _ E2).mono ?_); rintro e w' ⟨rfl, rfl⟩))
    exact bodyPost_ret (results_ctt rfl _ _ w.heap.size _ rfl (load_t TF.out.res)) rfl ⟨sbk, O12, A8, c8, rfl, TF.out.now, ATF.out.1, hc8, TF.out.now.low⟩
  · have i1 : ¬ 0 < inc := by omega
    have i2 : ¬ inc < 0 := by omega
    have T12 := Lib.hid (show TXS w w7 O6 sbk S' (txl 0 0 0 0 0 0 (.slice none 0 0)) (txl inc ex used nw 0 0 (.slice none 0 0)) from by rw [hus, hnw, hS]; exact T6.out)
    have AT12 := Lib.hid (AtO.none O6 w7 u)
    obtain ⟨O12, hO⟩ : ∃ O12, O6 = O12 := ⟨_, rfl⟩
    rw [hO] at T12 AT12
    rw [← W7.out] at T12 AT12
    clear z hus hnw NX T6 hO hS W7
    have m0 := T12.out.mkg.cell 0 _ rfl
    have m1 := T12.out.mkg.cell 1 _ rfl
    have m2 := T12.out.mkg.cell 2 _ rfl
    have m3 := T12.out.mkg.cell 3 _ rfl
    have m4 := T12.out.mkg.cell 4 _ rfl
    have m5 := T12.out.mkg.cell 5 _ rfl
    have m6 := T12.out.mkg.cell 6 _ rfl
    have g4 := T12.out.mkg.frz 4
    have g5 := T12.out.mkg.frz 5
    have r0 := T12.out.res.cell 0 _ rfl
    have h0 := T12.out.res.frz 0
    have r1 := T12.out.res.cell 1 _ rfl
    have h1 := T12.out.res.frz 1
    have r2 := T12.out.res.cell 2 _ rfl
    have h2 := T12.out.res.frz 2
    have r3 := T12.out.res.cell 3 _ rfl
    have h3 := T12.out.res.frz 3
    have r4 := T12.out.res.cell 4 _ rfl
    have h4 := T12.out.res.frz 4
    have r5 := T12.out.res.cell 5 _ rfl
    have h5 := T12.out.res.frz 5
    have r6 := T12.out.res.cell 6 _ rfl
    have h6 := T12.out.res.frz 6
    have y1 := T12.out.set 4 (.int .i64 (inc - used + nw)) (by simp [txl])
    have y2 := y1.1.set 5 (.int .i64 tax) (by simp [txl])
    have z0 := y2.1.setR 0 (.int .i64 inc) (by simp [txl])
    have z1 := z0.1.setR 1 (.int .i64 ex) (by simp [txl])
    have z2 := z1.1.setR 2 (.int .i64 used) (by simp [txl])
    have z3 := z2.1.setR 3 (.int .i64 nw) (by simp [txl])
    have z4 := z3.1.setR 4 (.int .i64 (inc - used + nw)) (by simp [txl])
    have z5 := z4.1.setR 5 (.int .i64 tax) (by simp [txl])
    have z6 := z5.1.setR 6 (.slice none 0 0) (by simp [txl])
    have TF := Lib.hid (show TXS w _ O12 sbk S' (txl inc ex used nw (inc - used + nw) tax (.slice none 0 0)) _ from z6.1)
    have ATF := Lib.hid (((((((((AT12.out.step y1.2 (by decide)).step y2.2 (by decide)).step z0.2 (by decide)).step z1.2 (by decide)).step z2.2 (by decide)).step z3.2 (by decide)).step z4.2 (by decide)).step z5.2 (by decide)).step z6.2 (by decide))
    clear y1 y2 z0 z1 z2 z3 z4 z5 z6 T12 AT12
    go_wp2_with (first | (go_at_call 49; (with_reducible refine (rpart_v _ _ _ (by omega) (by omega) _ E2).mono ?_); rintro e w' ⟨rfl, rfl⟩))
    exact bodyPost_ret (results_ctt rfl _ _ w.heap.size _ rfl (load_t TF.out.res)) rfl ⟨sbk, O12, none, 0, rfl, TF.out.now, ATF.out.1, Nat.le_refl _, TF.out.now.low⟩
  · have i1 : ¬ 0 < inc := by omega
    have n2 : -inc = nw := by omega
    have HUS := Lib.hid hus
    have HS := Lib.hid hS
    have N2 := Lib.hid n2
    have yb : 0 ≤ year + life ∧ year + life ≤ 198 := by omega
    have c3 := T6.out.mkg.cell 3 _ rfl
    have f3 := T6.out.mkg.frz 3
    have x7 := T6.out.set 3 (.int .i64 nw) (by simp [txl])
    have T7 := Lib.hid (show TXS w (w7.setCell ⟨w.heap.size + 1, 3, none⟩ (.int .i64 nw)) O6 sbk (xpS S year) (txl 0 0 0 0 0 0 (.slice none 0 0)) (txl inc ex 0 nw 0 0 (.slice none 0 0)) from x7.1)
    rw [n2] at hae
    have CA := Lib.hid (nladd x7.1.now (by decide) TL.out.inv.is _ _ _ 0 hae)
    clear hus hnw hS NX x7 hae T6
    rw [← W7.out] at c3 f3 T7 CA
    clear W7
    go_wp2_with fail
    refine (CA.out).mono ?_
    rintro e w12 ⟨rfl, O12, m12, st12⟩
    have e12 : adS 0 (xpS S year) (year + life) year nw = S' := by rw [HS.out, N2.out]; exact if_pos rfl
    rw [e12] at m12
    have T12 := Lib.hid (show TXS w w12 O12 sbk S' (txl 0 0 0 0 0 0 (.slice none 0 0)) (txl inc ex used nw 0 0 (.slice none 0 0)) from by rw [HUS.out]; exact T7.out.step st12 m12)
    have AT12 := Lib.hid (AtO.none O12 w12 u)
    clear CA e12 m12 st12 T7 HUS HS N2 n2
    have m0 := T12.out.mkg.cell 0 _ rfl
    have m1 := T12.out.mkg.cell 1 _ rfl
    have m2 := T12.out.mkg.cell 2 _ rfl
    have m3 := T12.out.mkg.cell 3 _ rfl
    have m4 := T12.out.mkg.cell 4 _ rfl
    have m5 := T12.out.mkg.cell 5 _ rfl
    have m6 := T12.out.mkg.cell 6 _ rfl
    have g4 := T12.out.mkg.frz 4
    have g5 := T12.out.mkg.frz 5
    have r0 := T12.out.res.cell 0 _ rfl
    have h0 := T12.out.res.frz 0
    have r1 := T12.out.res.cell 1 _ rfl
    have h1 := T12.out.res.frz 1
    have r2 := T12.out.res.cell 2 _ rfl
    have h2 := T12.out.res.frz 2
    have r3 := T12.out.res.cell 3 _ rfl
    have h3 := T12.out.res.frz 3
    have r4 := T12.out.res.cell 4 _ rfl
    have h4 := T12.out.res.frz 4
    have r5 := T12.out.res.cell 5 _ rfl
    have h5 := T12.out.res.frz 5
    have r6 := T12.out.res.cell 6 _ rfl
    have h6 := T12.out.res.frz 6
    have y1 := T12.out.set 4 (.int .i64 (inc - used + nw)) (by simp [txl])
    have y2 := y1.1.set 5 (.int .i64 tax) (by simp [txl])
    have z0 := y2.1.setR 0 (.int .i64 inc) (by simp [txl])
    have z1 := z0.1.setR 1 (.int .i64 ex) (by simp [txl])
    have z2 := z1.1.setR 2 (.int .i64 used) (by simp [txl])
    have z3 := z2.1.setR 3 (.int .i64 nw) (by simp [txl])
    have z4 := z3.1.setR 4 (.int .i64 (inc - used + nw)) (by simp [txl])
    have z5 := z4.1.setR 5 (.int .i64 tax) (by simp [txl])
    have z6 := z5.1.setR 6 (.slice none 0 0) (by simp [txl])
    have TF := Lib.hid (show TXS w _ O12 sbk S' (txl inc ex used nw (inc - used + nw) tax (.slice none 0 0)) _ from z6.1)
    have ATF := Lib.hid (((((((((AT12.out.step y1.2 (by decide)).step y2.2 (by decide)).step z0.2 (by decide)).step z1.2 (by decide)).step z2.2 (by decide)).step z3.2 (by decide)).step z4.2 (by decide)).step z5.2 (by decide)).step z6.2 (by decide))
    clear y1 y2 z0 z1 z2 z3 z4 z5 z6 T12 AT12
    go_wp2_with (first | (go_at_call 49; (with_reducible refine (rpart_v _ _ _ (by omega) (by omega) _ E2).mono ?_); rintro e w' ⟨rfl, rfl⟩))
    exact bodyPost_ret (results_ctt rfl _ _ w.heap.size _ rfl (load_t TF.out.res)) rfl ⟨sbk, O12, none, 0, rfl, TF.out.now, ATF.out.1, Nat.le_refl _, TF.out.now.low⟩
set_option maxHeartbeats 8000000 in
set_option maxRecDepth 100000 in
/-- the loss may not be added -/
theorem rtax_add (h : NowL w0 w O t sb S) (iv : VInv S n g) (p : Tq) {inc ex er : Int} {m : Nat} {h' : Nat → Bk} (H : TArg p) (hi : IncIs p.book p.perm p.moved inc true) (hN : inc < 0) (tl : TLeft S n g p.year m h' ex) (ha : AErr (xpS S p.year) m (btot h' m) (p.year + p.life) p.year (-inc) er) (h0 : er ≠ 0) :
    Calls Try.prog 20 #[ptr sb, .int .i64 p.book, .int .i64 p.perm, .int .i64 p.moved, .int .i64 p.cap, .int .i64 p.life, .int .i64 p.year, .int .i64 p.r] w fun e w' => e = .returned (.tuple #[txa 0 0 0 0 0 0 (.slice none 0 0), .pointer none, .int .i64 er]) ∧ Below w.heap.size w w' := by
  obtain ⟨book, perm, moved, cap, life, year, r⟩ := p
  obtain ⟨hm, hj⟩ := inc_mon hi
  clear hj
  obtain ⟨q1, q2, q3, q4⟩ := H
  have HE := Lib.hid tl.exp
  have HI := Lib.hid hi
  dsimp only at *
  unfold Mon at hm
  obtain ⟨hm1, hm2⟩ := hm
  obtain ⟨O2, fn, r1, k1⟩ := two_heads w [.int .i64 0, .int .i64 0, .int .i64 0, .int .i64 0, .int .i64 0, .int .i64 0, .slice none 0 0] [.int .i64 inc, .int .i64 0, .int .i64 0, .int .i64 0, .int .i64 0, .int .i64 0, .slice none 0 0] 48 48
  have lo0 := (Below.refl w.heap.size w).alloc (Nat.le_refl _) (.cells #[.int .i64 0, .int .i64 0, .int .i64 0, .int .i64 0, .int .i64 0, .int .i64 0, .slice none 0 0] 48)
  have lo1 := lo0.alloc lo0.size (.cells #[.int .i64 inc, .int .i64 0, .int .i64 0, .int .i64 0, .int .i64 0, .int .i64 0, .slice none 0 0] 48)
  have CC := Lib.hid (nlcopy (h.below lo1) w fn lo1 1)
  have R1 := Lib.hid r1
  have K1 := Lib.hid k1
  have IV := Lib.hid iv
  have TL := Lib.hid tl
  clear h fn r1 k1 lo0 lo1 iv tl hi
  go_enter Try.func20, Try.ntmps20
  go_wp2_with (first | (go_at_call 40; (with_reducible refine (rrt_yes _ _ (by omega) (by omega)).mono ?_); rintro e w' ⟨rfl, rfl⟩) | (go_at_call 40; (with_reducible refine (rrt_no _ _ (by omega)).mono ?_); rintro e w' ⟨rfl, rfl⟩) | (go_at_call 41; (with_reducible refine (ryr_yes _ _ (by omega) (by omega)).mono ?_); rintro e w' ⟨rfl, rfl⟩) | (go_at_call 41; (with_reducible refine (ryr_no _ _ (by omega)).mono ?_); rintro e w' ⟨rfl, rfl⟩) | (go_at_call 42; (with_reducible refine (rinc HI.out _).mono ?_); rintro e w' ⟨rfl, rfl⟩))
  refine (CC.out).mono ?_
  rintro e w5 ⟨sbk, O5, rfl, n5, st5⟩
  have T5 := Lib.hid (show TXS w w5 O5 sbk S (txl 0 0 0 0 0 0 (.slice none 0 0)) (txl inc 0 0 0 0 0 (.slice none 0 0)) from ⟨n5, R1.out.step (st5 1) (by decide), K1.out.step (st5 1) (by decide)⟩)
  clear n5 st5 CC R1 K1
  go_wp2_with fail
  refine (nlexp T5.out.now (by decide) IV.out.is _).mono ?_
  rintro e w6 ⟨rfl, O6, n6, st6⟩
  rw [HE.out]
  have t6 := T5.out.step st6 n6
  have c1 := t6.mkg.cell 1 _ rfl
  have f1 := t6.mkg.frz 1
  have T6 := Lib.hid (show TXS w (w6.setCell ⟨w.heap.size + 1, 1, none⟩ (.int .i64 ex)) O6 sbk (xpS S year) (txl 0 0 0 0 0 0 (.slice none 0 0)) (txl inc ex 0 0 0 0 (.slice none 0 0)) from (t6.set 1 (.int .i64 ex) (by simp [txl])).1)
  clear t6 n6 st6 T5
  obtain ⟨w7, hw7⟩ : ∃ w7, w6.setCell ⟨w.heap.size + 1, 1, none⟩ (.int .i64 ex) = w7 := ⟨_, rfl⟩
  rw [hw7] at T6
  have W7 := Lib.hid hw7
  clear hw7
  have i1 : ¬ 0 < inc := by omega
  have c3 := T6.out.mkg.cell 3 _ rfl
  have f3 := T6.out.mkg.frz 3
  have yb : 0 ≤ year + life ∧ year + life ≤ 198 := by omega
  obtain ⟨nw, hnw⟩ : ∃ nw, -inc = nw := ⟨_, rfl⟩
  rw [hnw] at ha
  have x7 := T6.out.set 3 (.int .i64 nw) (by simp [txl])
  have T7 := Lib.hid (show TXS w (w7.setCell ⟨w.heap.size + 1, 3, none⟩ (.int .i64 nw)) O6 sbk (xpS S year) (txl 0 0 0 0 0 0 (.slice none 0 0)) (txl inc ex 0 nw 0 0 (.slice none 0 0)) from x7.1)
  have CA := Lib.hid (nladd x7.1.now (by decide) TL.out.inv.is _ _ _ er ha)
  have e0 : (er == 0) = false := by simpa using h0
  clear x7 ha T6
  rw [← W7.out] at c3 f3 T7 CA
  clear W7
  go_wp2_with fail
  refine (CA.out).mono ?_
  rintro e w12 ⟨rfl, O12, m12, st12⟩
  have T12 := Lib.hid (T7.out.step st12 m12)
  clear CA m12 st12 T7
  have r0 := T12.out.res.cell 0 _ rfl
  have r1 := T12.out.res.cell 1 _ rfl
  have r2 := T12.out.res.cell 2 _ rfl
  have r3 := T12.out.res.cell 3 _ rfl
  have r4 := T12.out.res.cell 4 _ rfl
  have r5 := T12.out.res.cell 5 _ rfl
  have r6 := T12.out.res.cell 6 _ rfl
  have h0 := T12.out.res.frz 0
  have h1 := T12.out.res.frz 1
  have h2 := T12.out.res.frz 2
  have h3 := T12.out.res.frz 3
  have h4 := T12.out.res.frz 4
  have h5 := T12.out.res.frz 5
  have h6 := T12.out.res.frz 6
  have z0 := T12.out.setR 0 (.int .i64 0) (by simp [txl])
  have z1 := z0.1.setR 1 (.int .i64 0) (by simp [txl])
  have z2 := z1.1.setR 2 (.int .i64 0) (by simp [txl])
  have z3 := z2.1.setR 3 (.int .i64 0) (by simp [txl])
  have z4 := z3.1.setR 4 (.int .i64 0) (by simp [txl])
  have z5 := z4.1.setR 5 (.int .i64 0) (by simp [txl])
  have z6 := z5.1.setR 6 (.slice none 0 0) (by simp [txl])
  have TF := Lib.hid (show TXS w _ O12 sbk _ (txl 0 0 0 0 0 0 (.slice none 0 0)) _ from z6.1)
  clear z0 z1 z2 z3 z4 z5 z6 T12
  go_wp2
  exact bodyPost_ret (results_ctt rfl _ _ w.heap.size _ rfl (load_t TF.out.res)) rfl ⟨rfl, TF.out.now.low⟩
/-- why there is none -/
theorem rtax_no (h : NowL w0 w O t sb S) (iv : VInv S n g) (p : Tq) {er : Int} (H : TNo S n g p er) :
    Calls Try.prog 20 #[ptr sb, .int .i64 p.book, .int .i64 p.perm, .int .i64 p.moved, .int .i64 p.cap, .int .i64 p.life, .int .i64 p.year, .int .i64 p.r] w fun e w' => e = .returned (.tuple #[txa 0 0 0 0 0 0 (.slice none 0 0), .pointer none, .int .i64 er]) ∧ Below w.heap.size w w' := by
  cases H with
  | arg h1 => exact rtax_arg p h1
  | over h1 h2 => exact rtax_over p h1 h2
  | add h1 h2 h3 h4 h5 h6 => exact rtax_add h iv p h1 h2 h3 h4 h5 h6
end
end Go.Proofs.Ytmeljcogoeghaaa
