/- VintageYears: its walk. -/
import Derived.Test.YtdjepibgpgeifaaQv13
import Derived.Test.YtdjepibgpgeifaaPlay
import Derived.Test.YtdjepibgpgeifaaInts
import Derived.WalkKit
import Derived.WalkSpells
import Derived.WalkLawsBesides
import Derived.Lib.Hide
import Derived.IntWalk
import Derived.Deep.LoopGhost
import Derived.Deep.RegionHeld3
import Derived.Deep.DeepCutAuto
import Derived.Deep.CutBlock
namespace Go.Proofs.Ytdjepibgpgeifaa
open Go.RowKit

section
variable {w0 w w1 : World} {O O1 : Nat → Nat} {t t' sb : Nat} {S : Int → Int → Int} {T : Int}
theorem xp_twice (S : Int → Int → Int) (y : Int) : xpS (xpS S y) y = xpS S y := by
  funext c o; unfold xpS; split <;> rfl
theorem xp_later (S : Int → Int → Int) (y : Int) : xpS (xpS S y) (y + 1) = xpS S (y + 1) := by
  funext c o; unfold xpS
  split
  · rfl
  · rw [if_neg (by omega)]
/-- a year's expiry -/
theorem qvexp (h : QV w0 w O t sb S T) (ht : t ≠ 0) (year : Int) (T' : Int) (hi : ∃ n' g', VIs (xpS S year) n' g' ∧ btot g' n' = T') :
    Calls Try.prog 14 #[ptr sb, .int .i64 year] w fun e w' => e = .returned (.int .i64 (T - T')) ∧ ∃ O', QV w0 w' O' t sb (xpS S year) T' ∧ Step w0.heap.size O t w O' w' := by
  obtain ⟨n, g, b, rfl⟩ := h.is
  obtain ⟨n', g', b', rfl⟩ := hi
  refine (pvexp h.now ht b year).mono ?_
  rintro e w' ⟨rfl, O', h', st⟩
  have e1 : tot (goneU g year) n = btot g n - btot g' n' := by
    obtain ⟨n0, g0, iv0⟩ := h.now.told
    obtain ⟨rfl, eg⟩ := iv0.is.uniq b
    have iv : VInv S n0 g := ⟨b, iv0.le, fun j hj => by rw [← eg j hj]; exact iv0.pos j hj, by have := b.total iv0.is; have := iv0.all; omega⟩
    obtain ⟨m, f0, f⟩ := flt_any (n := n0) (G := lessG g (goneU g year)) (fun j hj => b.1.ok j hj) (fun i j hi hj => b.1.asc i j hi hj) g n0 (Nat.le_refl _)
    have f1 := (iv.less (iv.gone year) f).2
    have f2 := f.done
    rw [less_gone b] at f2
    have := f2.total b'
    omega
  exact ⟨congrArg (fun x => Ending.returned (.int .i64 x)) e1, O', ⟨h', n', g', b', rfl⟩, st⟩
end
set_option maxHeartbeats 8000000 in
set_option maxRecDepth 100000 in
theorem vintageYears_walk (a0 : Option Addr) (len0 cap0 : Nat) (a1 : Int) (w : World) (w0 : Acts13 w a0 len0) (_w1 : (Lit.int .i64 a1).wf = true) :
    Calls Try.prog 4 #[.slice a0 len0 cap0, .int .i64 a1] w fun e w' => e = .returned (.bool true) ∧ Below w.heap.size w w' := by
  obtain ⟨i0, hi, hz0, hz1, hz2⟩ := info_parts vn_info
  obtain ⟨fd, fo, fl, fa, fA, fm, fc, hf⟩ := w0.fn
  have HA := Lib.hid hf
  obtain ⟨x, hx⟩ : ∃ x : Nat → Bk, x = fun j => ⟨fo j % 6 + fl j % 5, fo j % 6, 1 + fa j % 5000⟩ := ⟨_, rfl⟩
  have hfew : ∀ j, FewV (x j) := fun j => by rw [hx]; unfold FewV; dsimp only; omega
  have HX := Lib.hid hx
  have HFW := Lib.hid hfew
  have CN := Lib.hid (qvnew (Fin0.zero w.heap.size w) (Below.refl _ _) 1 x)
  clear w0 hf hx hfew _w1
  go_enter Try.func4, Try.ntmps4
  go_wp2_with fail
  refine (CN.out).mono ?_
  rintro e w1 ⟨ra, O1, rfl, q1, st1⟩
  have CN2 := Lib.hid (qvnew q1.now.fin q1.now.low 2 x)
  have Q1 := Lib.hid q1
  clear CN q1 st1
  go_wp2_with fail
  refine (CN2.out).mono ?_
  rintro e w2 ⟨rb, O2, rfl, q2, st2⟩
  have QA := Lib.hid (Q1.out.step (st2 2) (by decide) (by decide))
  have QB := Lib.hid q2
  clear CN2 q2 st2 Q1
  go_upto_block 0 with fail
  go_cut [7] (fun _ wx => ∃ (k : Nat) (O : Nat → Nat), k ≤ 10 ∧ QV w wx O 1 ra (bget x k) (btot x k) ∧ QV w wx O 2 rb (bget x k) (btot x k))
  case first =>
    go_wp2
    go_loopg [7] 10 (fun gh s5 wr => ∃ (k : Nat) (O : Nat → Nat), k ≤ 10 ∧ k ≤ len0 ∧ gh = 10 - k ∧ s5 = .int .i64 k ∧ QV w wr O 1 ra (bget x k) (btot x k) ∧ QV w wr O 2 rb (bget x k) (btot x k))
    case atStart => exact ⟨0, O2, by omega, by omega, rfl, rfl, QA.out, QB.out⟩
    case round =>
      obtain ⟨k, O, hk, hkl, hgk, rfl, qa, qb⟩ := hrel
      have HGK := Lib.hid hgk
      have Q3 := Lib.hid qa
      have Q4 := Lib.hid qb
      clear hgk qa qb QA QB
      by_cases hlt : k < len0 ∧ k < 10
      · obtain ⟨l0, l1⟩ := hlt
        obtain ⟨b, off, rfl, hb, ha⟩ := HA.out k (by omega)
        have a1 := (ha k (by omega)).below Q3.out.now.low
        obtain ⟨j0, j1, j2, j3, j4⟩ := a1
        have k0 : (0 : Int) ≤ (k : Int) := by omega
        have k1 : (k : Int) < (len0 : Int) := by omega
        have k2 : decide ((k : Int) < 10) = true := by simp; omega
        clear ha
        obtain ⟨p, hp⟩ : ∃ z, fo k % 6 = z := ⟨_, rfl⟩
        obtain ⟨q, hq⟩ : ∃ z, fl k % 5 = z := ⟨_, rfl⟩
        obtain ⟨r, hr⟩ : ∃ z, fa k % 5000 = z := ⟨_, rfl⟩
        have ew1 : IntKind.i64.wrap (p + q) = p + q := IntWalk.i64_in _ (by omega)
        have ew2 : IntKind.i64.wrap (1 + r) = 1 + r := IntWalk.i64_in _ (by omega)
        have Hp := Lib.hid hp
        have Hq := Lib.hid hq
        have Hr := Lib.hid hr
        clear hp hq hr
        have XK : Hid (x k = ⟨p + q, p, 1 + r⟩) := Lib.hid (by rw [HX.out]; dsimp only; rw [Hp.out, Hq.out, Hr.out])
        have c2 : Hid (wr.cell? ⟨b, off + k * 5 + 2, none⟩ = some (.int .i64 (fl k))) := Lib.hid j2
        go_wp2_with (first | (go_at_call 9; (with_reducible refine (within_at (fo k) 6 p _ (by omega) (by omega) Hp).mono ?_); rintro e w' ⟨rfl, rfl⟩))
        go_region_held3 (fun w' => w'.cell? ⟨b, off + k * 5 + 2, none⟩ = some (.int .i64 (fl k)) ∧ w'.cell? ⟨b, off + k * 5 + 3, none⟩ = some (.int .i64 (fa k))) (first | go_keep) (first | (go_at_call 9; (with_reducible refine (within_at (fl k) 5 q _ (by omega) (by omega) Hq).mono ?_); rintro e w' ⟨rfl, rfl⟩) | (go_at_call 9; (with_reducible refine (within_at (fa k) 5000 r _ (by omega) (by omega) Hr).mono ?_); rintro e w' ⟨rfl, rfl⟩))
        have CM := Lib.hid (qvadd (Q3.out.below (below_drew wr)) (by decide) (by omega) (fun j _ => HFW.out j) _ _ _ XK.out)
        have Q4d := Lib.hid (Q4.out.below (below_drew wr))
        clear j0 j1 j2 j3 j4 c2 Q3 Q4
        go_wp2_with fail
        refine (CM.out).mono ?_
        rintro e w5 ⟨rfl, O5, q5, s5⟩
        have QB5 := Q4d.out.step s5 (by decide) (by decide)
        have QA5 := Lib.hid q5
        have CM2 := Lib.hid (qvadd QB5 (by decide) (by omega) (fun j _ => HFW.out j) _ _ _ XK.out)
        clear q5 s5 QB5 CM
        go_wp2_with fail
        refine (CM2.out).mono ?_
        rintro e w6 ⟨rfl, O6, q6, s6⟩
        have QA6 := Lib.hid (QA5.out.step s6 (by decide) (by decide))
        have QB6 := Lib.hid q6
        clear q6 s6 CM2
        go_wp2
        go_roundg (10 - (k + 1))
        case measure => have := HGK.out; omega
        case rel => exact ⟨k + 1, O6, by omega, by omega, rfl, by go_num, QA6.out, QB6.out⟩
      · rcases (show ¬ k < len0 ∨ (k < len0 ∧ k = 10) by omega) with h | ⟨h, rfl⟩
        all_goals
          clear hlt
          go_wp2
          go_meet
          exact ⟨_, O, by omega, Q3.out, Q4.out⟩
  case rest =>
    obtain ⟨k, O, hk, qa, qb⟩ := hcut
    have QC := Lib.hid qa
    have QD := Lib.hid qb
    clear qa qb QA QB
    go_wp2_with fail
    refine (within_some _ _ _ (by omega) (by omega)).mono ?_
    rintro e w' ⟨Y, hY1, hY2, rfl, rfl⟩
    obtain ⟨n, g, iv⟩ := QC.out.now.told
    obtain ⟨n', g', b', eT⟩ := QC.out.is
    obtain ⟨m, f0, f⟩ := flt_any (n := n) (G := lessG g (goneU g Y)) (fun j hj => iv.is.1.ok j hj) (fun i j hi hj => iv.is.1.asc i j hi hj) g n (Nat.le_refl _)
    have HT0 := Lib.hid ((iv.is.total b').trans eT)
    have C1 := Lib.hid (pvrows QC.out.now iv.is)
    have IV := Lib.hid iv
    clear iv b' eT f
    go_wp2_with fail
    refine (C1.out).mono ?_
    rintro e w8 ⟨A1, c1, rfl, hc1, hm1, ho1, hb1⟩
    have QC8 := Lib.hid (QC.out.below hb1)
    have QD8 := Lib.hid (QD.out.below hb1)
    have at1 : AtR ve 3 w8 A1 n g := by
      obtain ⟨_, _, e, _, _, _, h⟩ := ho1.at ve_len
      injection e with e1 _ _
      rw [e1]; exact h
    have AT1 := Lib.hid at1
    clear ho1 hb1 at1 QC QD C1
    go_wp2
    go_loopg [11, 12, 71] n (fun gh s5 s6 i wr => ∃ (k m : Nat) (h : Nat → Bk), k ≤ n ∧ gh = n - k ∧ i = .int .i64 k ∧ s5 = .int .i64 (tot (goneU g Y) k) ∧ Flt n (lessG g (goneU g Y)) k m h ∧ OwnR ve 3 wr 32 w8.heap.size s6 m h ∧ Below w8.heap.size w8 wr)
    case atStart => exact ⟨0, 0, g, Nat.zero_le _, rfl, rfl, rfl, Flt.zero _ _ _, OwnR.nil _ _ _ _ _ _, Below.refl _ _⟩
    case round =>
      obtain ⟨k2, m, h, hk2, hgk, rfl, rfl, hf, ho, hbw⟩ := hrel
      have HGK := Lib.hid hgk
      have HW := Lib.hid hbw
      have FL := Lib.hid hf
      have HO := Lib.hid ho
      have hmk := hf.le
      have hz := hbw.size
      have hn := IV.out.le
      obtain ⟨T, hT⟩ : ∃ T, tot (goneU g Y) k2 = T := ⟨_, rfl⟩
      rw [hT]
      have HT := Lib.hid hT
      clear hgk hbw hf ho hT
      by_cases hlt : k2 < n
      · obtain ⟨b, off, rfl, hb, c0, c1, c2⟩ := (AT1.out.below HW.out).threeV hlt
        by_cases hy : (g k2).c < Y
        · have eu : goneU g Y k2 = (g k2).a := if_pos hy
          have FN := Lib.hid (FL.out.skip (by show (g k2).a - goneU g Y k2 = 0; omega))
          have HT2 : Hid (T + (g k2).a = tot (goneU g Y) (k2 + 1)) := Lib.hid (by rw [tot, HT.out, eu])
          have ew : IntKind.i64.wrap (T + (g k2).a) = T + (g k2).a := IntWalk.i64_in _ (by
            have := IV.out.goes (IV.out.gone Y) (k := k2 + 1) (by omega)
            rw [← HT2.out] at this
            omega)
          clear eu
          go_wp2
          go_roundg (n - (k2 + 1))
          case measure => have := HGK.out; omega
          case rel => exact ⟨k2 + 1, m, h, by omega, rfl, by go_num, by rw [HT2.out], FN.out, HO.out.alloc _, HW.out.alloc hz _⟩
        · have eu : goneU g Y k2 = 0 := if_neg hy
          have hy' : decide ((g k2).c < Y) = false := by simpa using hy
          have eg : lessG g (goneU g Y) k2 = g k2 := by
            unfold lessG
            rw [eu]
            cases g k2
            simp
          have FN := Lib.hid (FL.out.keep hlt (fun j hj => IV.out.is.1.ok j hj) (fun i j hi hj => IV.out.is.1.asc i j hi hj) (by rw [eg]; exact IV.out.is.1.nz k2 hlt))
          rw [eg] at FN
          have HT2 : Hid (T = tot (goneU g Y) (k2 + 1)) := Lib.hid (by rw [tot, HT.out, eu, Int.add_zero])
          clear eu hy eg
          go_wp2_with (at_builtin; (refine wpList_push_r rfl (.tmp 83) (.tmp 85) rfl vn_type hi hz0 hz1 hz2 (by decide) rfl (by decide) ve_len ve_one w8 w8.heap.size m (wr.heap.size + 1) _ h (g k2) rfl rfl (rec_lit (wr.alloc _) (ve (g k2)) 32 _ (by simp)) ((HO.out.alloc _).alloc _) (by omega) ((HW.out.alloc hz _).alloc (by simp; omega) _) (by simp; omega) _ rfl ?_; intro b2 c3 w6 ho2 hb2 hg2 hat2; have HO2 := Lib.hid ho2; have HW2 := Lib.hid hb2; clear ho2 hb2 hg2 hat2))
          go_roundg (n - (k2 + 1))
          case measure => have := HGK.out; omega
          case rel => exact ⟨k2 + 1, m + 1, _, by omega, rfl, by go_num, by rw [← HT2.out], FN.out, HO2.out, HW2.out⟩
      · obtain rfl : k2 = n := by omega
        clear hlt
        obtain ⟨iv1, eb1⟩ := IV.out.less (IV.out.gone Y) FL.out
        rw [less_gone IV.out.is] at iv1
        obtain ⟨m2, h2, f2⟩ := flt_any (n := m) (G := lessG h (goneU h (Y + 1))) (fun j hj => iv1.is.1.ok j hj) (fun i j hi hj => iv1.is.1.asc i j hi hj) h m (Nat.le_refl _)
        obtain ⟨iv2, eb2⟩ := iv1.less (iv1.gone (Y + 1)) f2
        rw [less_gone iv1.is, xp_later] at iv2
        have ps : 0 ≤ tot (goneU h (Y + 1)) m := tot_nonneg m fun j hj => (iv1.gone (Y + 1) j hj).1
        have pt : 0 ≤ tot (goneU g Y) k2 := tot_nonneg k2 fun j hj => (IV.out.gone Y j hj).1
        have pa := IV.out.all
        have pl := iv2.low
        have h0 := HT0.out
        obtain ⟨T0, hT0⟩ : ∃ z, btot x k = z := ⟨_, rfl⟩
        obtain ⟨T1, hT1⟩ : ∃ z, btot h m = z := ⟨_, rfl⟩
        obtain ⟨T2, hT2⟩ : ∃ z, btot h2 m2 = z := ⟨_, rfl⟩
        rw [HT.out] at eb1 pt
        rw [hT1] at eb1 eb2
        rw [hT2] at eb2 pl
        rw [hT0] at h0
        rw [h0] at eb1 pa
        have e1 : T0 - T1 = T := by omega
        have IV1 := Lib.hid iv1
        have IV2 := Lib.hid iv2
        have LT1 : Hid (LTV wr O w8.heap.size 0 _ m h) := Lib.hid ⟨HO.out, fun b hb => QC8.out.now.fin.2 b (HO.out.lt b hb).1⟩
        have R1 := Lib.hid (QC8.out.below HW.out)
        have R2 := Lib.hid (QD8.out.below HW.out)
        rw [hT0] at R1 R2
        have CE := Lib.hid (qvexp R1.out (by decide) Y T1 ⟨m, h, iv1.is, hT1⟩)
        obtain ⟨R, hR⟩ : ∃ R, T1 - T2 = R := ⟨_, rfl⟩
        obtain ⟨P, hP⟩ : ∃ P, T0 - T2 = P := ⟨_, rfl⟩
        have f1 : 0 ≤ T ∧ T ≤ 100000000000 := by omega
        have f2' : 0 ≤ R ∧ R ≤ 100000000000 := by omega
        have f3 : P = T + R := by omega
        have F3 := Lib.hid f3
        have ewP : IntKind.i64.wrap (T + R) = P := by rw [f3]; exact IntWalk.i64_in _ (by omega)
        have ewY : IntKind.i64.wrap (Y + 1) = Y + 1 := IntWalk.i64_in _ (by omega)
        have g1 : decide (P ≥ T) = true := by simp; omega
        have g1' : decide (T ≤ P) = true := by simp; omega
        have g2 : (T != T) = false := by simp
        have g3 : (P == P) = true := by simp
        have HR := Lib.hid hR
        have HP := Lib.hid hP
        have E1 := Lib.hid e1
        have HT2x := Lib.hid hT2
        have HT1x := Lib.hid hT1
        clear iv1 iv2 f2 ps pt pa pl h0 eb1 eb2 hT1 hT2 hT0 hR hP e1 f3 f1 f2' hmk hz hn HT HO FL HW QC8 QD8 hY1 hY2
        go_wp2_with fail
        refine (CE.out).mono ?_
        rintro e wa ⟨rfl, Oa, qa, sa⟩
        rw [E1.out]
        have U1 := Lib.hid qa
        have U2 := Lib.hid (R2.out.step sa (by decide) (by decide))
        have U3 := Lib.hid (LT1.out.step sa (by decide))
        have CR := Lib.hid (pvrows qa.now IV1.out.is)
        clear qa sa CE R1 R2 LT1
        go_wp2_with fail
        refine (CR.out).mono ?_
        rintro e wb ⟨A3, c3, rfl, _, _, ho3, hb3⟩
        have V1 := Lib.hid (U1.out.below hb3)
        have V2 := Lib.hid (U2.out.below hb3)
        have V3 := Lib.hid (U3.out.below hb3)
        have at3 : AtR ve 3 wb A3 m h := by
          obtain ⟨_, _, e, _, _, _, h⟩ := ho3.at ve_len
          injection e with e1 _ _
          rw [e1]; exact h
        obtain ⟨A4, c4, rfl, _, _, _, at4⟩ := V3.out.own.at ve_len
        have hm12 := IV1.out.le
        have CS := Lib.hid (vsame_true A3 A4 m c3 c4 h h wb at3 at4 (by omega) fun _ _ => rfl)
        clear ho3 hb3 at3 at4 CR U1 U2 U3 hm12
        go_wp2_with fail
        refine (CS.out).mono ?_
        rintro e wc ⟨rfl, hb4⟩
        have X1 := Lib.hid (V1.out.below hb4)
        have X2 := Lib.hid (V2.out.below hb4)
        have CE2 := Lib.hid (qvexp X1.out (by decide) Y T1 ⟨m, h, by rw [xp_twice]; exact IV1.out.is, HT1x.out⟩)
        clear hb4 CS V1 V2 V3
        go_wp2_with fail
        refine (CE2.out).mono ?_
        rintro e wd ⟨rfl, Od, qd, sd⟩
        rw [xp_twice] at qd
        rw [Int.sub_self]
        have Y1 := Lib.hid qd
        have Y2 := Lib.hid (X2.out.step sd (by decide) (by decide))
        have CE3 := Lib.hid (qvexp Y2.out (by decide) (Y + 1) T2 ⟨m2, h2, IV2.out.is, HT2x.out⟩)
        clear qd sd CE2 X1 X2
        go_wp2_with fail
        refine (CE3.out).mono ?_
        rintro e we ⟨rfl, Oe, qe, se⟩
        rw [HP.out]
        have Z1 := Lib.hid (Y1.out.step se (by decide) (by decide))
        have Z2 := Lib.hid qe
        have CE4 := Lib.hid (qvexp Z1.out (by decide) (Y + 1) T2 ⟨m2, h2, by rw [xp_later]; exact IV2.out.is, HT2x.out⟩)
        clear qe se CE3 Y1 Y2
        go_wp2_with fail
        refine (CE4.out).mono ?_
        rintro e wf ⟨rfl, Of, qf, sf⟩
        rw [xp_later] at qf
        rw [HR.out]
        have W1 := Lib.hid qf
        have W2 := Lib.hid (Z2.out.step sf (by decide) (by decide))
        have CR2 := Lib.hid (pvrows qf.now IV2.out.is)
        clear qf sf CE4 Z1 Z2
        go_wp2_with fail
        refine (CR2.out).mono ?_
        rintro e wg ⟨A5, c5, rfl, _, _, ho5, hb5⟩
        have at5 : AtR ve 3 wg A5 m2 h2 := by
          obtain ⟨_, _, e, _, _, _, h⟩ := ho5.at ve_len
          injection e with e1 _ _
          rw [e1]; exact h
        have AT5 := Lib.hid at5
        have W4 := Lib.hid (W2.out.below hb5)
        have CR3 := Lib.hid (pvrows W4.out.now IV2.out.is)
        clear ho5 hb5 at5 CR2 W1 W2
        go_wp2_with fail
        refine (CR3.out).mono ?_
        rintro e wh ⟨A6, c6, rfl, _, _, ho6, hb6⟩
        have at6 : AtR ve 3 wh A6 m2 h2 := by
          obtain ⟨_, _, e, _, _, _, h⟩ := ho6.at ve_len
          injection e with e1 _ _
          rw [e1]; exact h
        have W5 := Lib.hid (W4.out.below hb6)
        have hm22 := IV2.out.le
        have CS2 := Lib.hid (vsame_true A5 A6 m2 c5 c6 h2 h2 wh (AT5.out.below hb6) at6 (by omega) fun _ _ => rfl)
        clear ho6 hb6 at6 CR3 W4 hm22
        go_wp2_with fail
        refine (CS2.out).mono ?_
        rintro e wi ⟨rfl, hb7⟩
        have W6 := Lib.hid (W5.out.below hb7)
        clear hb7 CS2 W5
        go_wp2_with fail
        refine (wakes13_any _).mono ?_
        rintro e wj ⟨rfl, hb8⟩
        have L8 := Lib.hid (W6.out.below hb8).now.low
        clear hb8
        go_wp2
        go_ret
        exact ⟨rfl, L8.out⟩
end Go.Proofs.Ytdjepibgpgeifaa
