/- VintageOrder: its walk. -/
import Derived.Test.YtdjepibgpgeifaaQv13
import Derived.Test.YtdjepibgpgeifaaPlay
import Derived.Test.YtdjepibgpgeifaaInts
import Derived.WalkKit
import Derived.WalkSpells
import Derived.WalkLawsBesides
import Derived.Lib.Hide
import Derived.IntWalk
import Derived.Deep.LoopGhost
import Derived.Deep.RegionHeld3
import Derived.Deep.DeepCutAuto
import Derived.Deep.CutBlock
namespace Go.Proofs.Ytdjepibgpgeifaa
open Go.RowKit

set_option maxHeartbeats 8000000 in
set_option maxRecDepth 100000 in
theorem vintageOrder_walk (a0 : Option Addr) (len0 cap0 : Nat) (w : World) (w0 : Acts13 w a0 len0) :
    Calls Try.prog 7 #[.slice a0 len0 cap0] w fun e w' => e = .returned (.bool true) ∧ Below w.heap.size w w' := by
  obtain ⟨fd, fo, fl, fa, fA, fm, fc, hf⟩ := w0.fn
  have HA := Lib.hid hf
  obtain ⟨x, hx⟩ : ∃ x : Nat → Bk, x = fun j => ⟨fo j % 3 + fl j % 3, fo j % 3, 1 + fa j % 1000⟩ := ⟨_, rfl⟩
  have hfew : ∀ j, FewV (x j) := fun j => by rw [hx]; unfold FewV; dsimp only; omega
  have hnin : ∀ j, 0 ≤ (x j).y ∧ (x j).y ≤ 2 ∧ (x j).y ≤ (x j).c ∧ (x j).c ≤ (x j).y + 2 := fun j => by rw [hx]; dsimp only; omega
  have HX := Lib.hid hx
  have HFW := Lib.hid hfew
  have HNN := Lib.hid hnin
  obtain ⟨n, hn⟩ : ∃ n : Nat, n = min len0 10 := ⟨_, rfl⟩
  have CN := Lib.hid (qvnew (Fin0.zero w.heap.size w) (Below.refl _ _) 1 x)
  clear w0 hf hx hfew hnin
  go_enter Try.func7, Try.ntmps7
  go_wp2_with fail
  refine (CN.out).mono ?_
  rintro e w1 ⟨ra, O1, rfl, q1, st1⟩
  have CN2 := Lib.hid (qvnew q1.now.fin q1.now.low 2 (fun j => x (n - 1 - j)))
  have Q1 := Lib.hid q1
  clear CN q1 st1
  go_wp2_with fail
  refine (CN2.out).mono ?_
  rintro e w2 ⟨rb, O2, rfl, q2, st2⟩
  have QA := Lib.hid (Q1.out.step (st2 2) (by decide) (by decide))
  have QB := Lib.hid q2
  clear CN2 q2 st2 Q1
  have hn10 : n ≤ 10 := by omega
  have hnl : n ≤ len0 := by omega
  have hmin : (n : Int) = min (len0 : Int) 10 := by omega
  have HMIN := Lib.hid hmin
  clear hn hmin
  go_wp2_with fail
  all_goals
    have hmin := HMIN.out
    first
    | rw [show (Value.int IntKind.i64 10) = Value.int IntKind.i64 (n : Int) from congrArg _ (by omega)]
    | rw [show (Value.int IntKind.i64 (len0 : Int)) = Value.int IntKind.i64 (n : Int) from congrArg _ (by omega)]
    clear hmin
    go_loopg [6] n (fun gh s6 wr => ∃ (k : Nat) (O : Nat → Nat), k ≤ n ∧ gh = n - k ∧ s6 = .int .i64 k ∧ QV w wr O 1 ra (bget x k) (btot x k) ∧ QV w wr O 2 rb (bget (fun j => x (n - 1 - j)) k) (btot (fun j => x (n - 1 - j)) k))
    case atStart => exact ⟨0, O2, Nat.zero_le _, rfl, rfl, QA.out, QB.out⟩
    case round =>
      obtain ⟨k, O, hk, hgk, rfl, qa, qb⟩ := hrel
      have HGK := Lib.hid hgk
      have Q3 := Lib.hid qa
      have Q4 := Lib.hid qb
      clear hgk qa qb QA QB
      by_cases hlt : k < n
      · obtain ⟨b, off, rfl, hb, ha⟩ := HA.out k (by omega)
        have a1 := (ha k (by omega)).below Q3.out.now.low
        have a2 := (ha (n - 1 - k) (by omega)).below Q3.out.now.low
        have hbl := Nat.lt_of_lt_of_le hb Q3.out.now.low.size
        obtain ⟨j0, j1, j2, j3, j4⟩ := a1
        obtain ⟨i0, i1, i2, i3, i4⟩ := a2
        have k0 : (0 : Int) ≤ (k : Int) := by omega
        have k1 : (k : Int) < (len0 : Int) := by omega
        have k2 : (k : Int) < (n : Int) := by omega
        have k3 : IntKind.i64.wrap ((n : Int) - 1) = (n : Int) - 1 := IntWalk.i64_in _ (by omega)
        have k4 : IntKind.i64.wrap ((n : Int) - 1 - (k : Int)) = (n : Int) - 1 - (k : Int) := IntWalk.i64_in _ (by omega)
        have k5 : (0 : Int) ≤ (n : Int) - 1 - (k : Int) := by omega
        have k6 : (n : Int) - 1 - (k : Int) < (len0 : Int) := by omega
        have k7 : ((n : Int) - 1 - (k : Int)).toNat = n - 1 - k := by omega
        have k8 : (k : Int) ≤ (n : Int) - 1 := by omega
        clear ha
        have n1 : b ≠ wr.heap.size := by omega
        have n2 : b ≠ wr.heap.size + 1 := by omega
        go_wp2
        go_cut [7, 8] (fun s7 s8 wx => ∃ X Y : Nat, s7 = ptr X ∧ s8 = ptr Y ∧ wr.heap.size ≤ X ∧ wr.heap.size ≤ Y ∧ wx.cell? ⟨X, 1, none⟩ = some (.int .i64 (fo k)) ∧ wx.cell? ⟨X, 2, none⟩ = some (.int .i64 (fl k)) ∧ wx.cell? ⟨X, 3, none⟩ = some (.int .i64 (fa k)) ∧ wx.cell? ⟨Y, 1, none⟩ = some (.int .i64 (fo (n - 1 - k))) ∧ wx.cell? ⟨Y, 2, none⟩ = some (.int .i64 (fl (n - 1 - k))) ∧ wx.cell? ⟨Y, 3, none⟩ = some (.int .i64 (fa (n - 1 - k))) ∧ Below wr.heap.size wr wx)
        case first =>
          go_region_held3 (fun w' => w'.cell? ⟨b, off + k * 5, none⟩ = some (.int .i64 (fd k)) ∧ w'.cell? ⟨b, off + k * 5 + 1, none⟩ = some (.int .i64 (fo k)) ∧ w'.cell? ⟨b, off + k * 5 + 2, none⟩ = some (.int .i64 (fl k)) ∧ w'.cell? ⟨b, off + k * 5 + 3, none⟩ = some (.int .i64 (fa k)) ∧ w'.cell? ⟨b, off + k * 5 + 4, none⟩ = some (.slice (fA k) (fm k) (fc k)) ∧ w'.cell? ⟨b, off + (n - 1 - k) * 5, none⟩ = some (.int .i64 (fd (n - 1 - k))) ∧ w'.cell? ⟨b, off + (n - 1 - k) * 5 + 1, none⟩ = some (.int .i64 (fo (n - 1 - k))) ∧ w'.cell? ⟨b, off + (n - 1 - k) * 5 + 2, none⟩ = some (.int .i64 (fl (n - 1 - k))) ∧ w'.cell? ⟨b, off + (n - 1 - k) * 5 + 3, none⟩ = some (.int .i64 (fa (n - 1 - k))) ∧ w'.cell? ⟨b, off + (n - 1 - k) * 5 + 4, none⟩ = some (.slice (fA (n - 1 - k)) (fm (n - 1 - k)) (fc (n - 1 - k)))) (first | go_keep) (fail)
          all_goals
            go_wp2
            go_meet
            first
            | (obtain ⟨t1, t2, t3⟩ := two_lits13 wr [.int .i64 (fd k), .int .i64 (fo k), .int .i64 (fl k), .int .i64 (fa k), .slice (fA k) (fm k) (fc k)] [.int .i64 (fd (n - 1 - k)), .int .i64 (fo (n - 1 - k)), .int .i64 (fl (n - 1 - k)), .int .i64 (fa (n - 1 - k)), .slice (fA (n - 1 - k)) (fm (n - 1 - k)) (fc (n - 1 - k))] 40 40
               exact ⟨_, _, rfl, rfl, by omega, by omega, t1 1 _ rfl, t1 2 _ rfl, t1 3 _ rfl, t2 1 _ rfl, t2 2 _ rfl, t2 3 _ rfl, t3.drew⟩)
            | (obtain ⟨t1, t2, t3⟩ := two_lits13 wr [.int .i64 (fd (n - 1 - k)), .int .i64 (fo (n - 1 - k)), .int .i64 (fl (n - 1 - k)), .int .i64 (fa (n - 1 - k)), .slice (fA (n - 1 - k)) (fm (n - 1 - k)) (fc (n - 1 - k))] [.int .i64 (fd k), .int .i64 (fo k), .int .i64 (fl k), .int .i64 (fa k), .slice (fA k) (fm k) (fc k)] 40 40
               exact ⟨_, _, rfl, rfl, by omega, by omega, t2 1 _ rfl, t2 2 _ rfl, t2 3 _ rfl, t1 1 _ rfl, t1 2 _ rfl, t1 3 _ rfl, t3.drew⟩)
        case rest =>
          obtain ⟨X, Y, rfl, rfl, hX, hY, x1, x2, x3, y1, y2, y3, hbc⟩ := hcut
          have Q5 := Lib.hid (Q3.out.below hbc)
          have Q6 := Lib.hid (Q4.out.below hbc)
          have OX : Hid (O X = 0 ∧ O Y = 0) := Lib.hid ⟨Q3.out.now.fin.2 X hX, Q3.out.now.fin.2 Y hY⟩
          clear hbc n1 n2 j0 j1 j2 j3 j4 i0 i1 i2 i3 i4 k3 k4 k5 k6 k7 k8
          obtain ⟨p, hp⟩ : ∃ z, fo k % 3 = z := ⟨_, rfl⟩
          obtain ⟨q, hq⟩ : ∃ z, fl k % 3 = z := ⟨_, rfl⟩
          obtain ⟨r, hr⟩ : ∃ z, fa k % 1000 = z := ⟨_, rfl⟩
          obtain ⟨p', hp2⟩ : ∃ z, fo (n - 1 - k) % 3 = z := ⟨_, rfl⟩
          obtain ⟨q', hq2⟩ : ∃ z, fl (n - 1 - k) % 3 = z := ⟨_, rfl⟩
          obtain ⟨r', hr2⟩ : ∃ z, fa (n - 1 - k) % 1000 = z := ⟨_, rfl⟩
          have ew1 : IntKind.i64.wrap (p + q) = p + q := IntWalk.i64_in _ (by omega)
          have ew2 : IntKind.i64.wrap (1 + r) = 1 + r := IntWalk.i64_in _ (by omega)
          have ew3 : IntKind.i64.wrap (p' + q') = p' + q' := IntWalk.i64_in _ (by omega)
          have ew4 : IntKind.i64.wrap (1 + r') = 1 + r' := IntWalk.i64_in _ (by omega)
          have Hp := Lib.hid hp
          have Hq := Lib.hid hq
          have Hr := Lib.hid hr
          have Hp2 := Lib.hid hp2
          have Hq2 := Lib.hid hq2
          have Hr2 := Lib.hid hr2
          clear hp hq hr hp2 hq2 hr2
          have XK : Hid (x k = ⟨p + q, p, 1 + r⟩) := Lib.hid (by rw [HX.out]; dsimp only; rw [Hp.out, Hq.out, Hr.out])
          have YK : Hid ((fun j => x (n - 1 - j)) k = ⟨p' + q', p', 1 + r'⟩) := Lib.hid (by rw [HX.out]; dsimp only; rw [Hp2.out, Hq2.out, Hr2.out])
          go_wp2
          go_region_held3 (fun w' => w'.cell? ⟨X, 1, none⟩ = some (.int .i64 (fo k)) ∧ w'.cell? ⟨Y, 1, none⟩ = some (.int .i64 (fo (n - 1 - k)))) (first | go_keep) (first | (go_at_call 9; (with_reducible refine (within_at (fo k) 3 p _ (by omega) (by omega) Hp).mono ?_); rintro e w' ⟨rfl, rfl⟩) | (go_at_call 9; (with_reducible refine (within_at (fo (n - 1 - k)) 3 p' _ (by omega) (by omega) Hp2).mono ?_); rintro e w' ⟨rfl, rfl⟩))
          obtain ⟨wd, hwd⟩ : ∃ wd, wd = wc.drew := ⟨_, rfl⟩
          have R5 := Lib.hid (show QV w wd O 1 ra (bget x k) (btot x k) by rw [hwd]; exact Q5.out.below (below_drew wc))
          have R6 := Lib.hid (show QV w wd O 2 rb (bget (fun j => x (n - 1 - j)) k) (btot (fun j => x (n - 1 - j)) k) by rw [hwd]; exact Q6.out.below (below_drew wc))
          replace x2 : wd.cell? ⟨X, 2, none⟩ = some (.int .i64 (fl k)) := by rw [hwd]; exact x2
          replace x3 : wd.cell? ⟨X, 3, none⟩ = some (.int .i64 (fa k)) := by rw [hwd]; exact x3
          replace y2 : wd.cell? ⟨Y, 2, none⟩ = some (.int .i64 (fl (n - 1 - k))) := by rw [hwd]; exact y2
          replace y3 : wd.cell? ⟨Y, 3, none⟩ = some (.int .i64 (fa (n - 1 - k))) := by rw [hwd]; exact y3
          rw [← hwd]
          clear hwd Q5 Q6 x1 y1 Q3 Q4
          have Dx2 : Hid (wd.drew.cell? ⟨X, 2, none⟩ = some (.int .i64 (fl k))) := Lib.hid x2
          have Dx3 : Hid (wd.drew.cell? ⟨X, 3, none⟩ = some (.int .i64 (fa k))) := Lib.hid x3
          have Dy2 : Hid (wd.drew.cell? ⟨Y, 2, none⟩ = some (.int .i64 (fl (n - 1 - k)))) := Lib.hid y2
          have Dy3 : Hid (wd.drew.cell? ⟨Y, 3, none⟩ = some (.int .i64 (fa (n - 1 - k)))) := Lib.hid y3
          have CM := Lib.hid (qvadd (R5.out.below (below_drew wd)) (by decide) (by omega) (fun j _ => HFW.out j) _ _ _ XK.out)
          go_wp2
          go_region_held3 (fun w' => w'.cell? ⟨X, 2, none⟩ = some (.int .i64 (fl k)) ∧ w'.cell? ⟨X, 3, none⟩ = some (.int .i64 (fa k)) ∧ w'.cell? ⟨Y, 2, none⟩ = some (.int .i64 (fl (n - 1 - k))) ∧ w'.cell? ⟨Y, 3, none⟩ = some (.int .i64 (fa (n - 1 - k)))) (first | go_keep) (first | (go_at_call 9; (with_reducible refine (within_at (fl k) 3 q _ (by omega) (by omega) Hq).mono ?_); rintro e w' ⟨rfl, rfl⟩) | (go_at_call 9; (with_reducible refine (within_at (fa k) 1000 r _ (by omega) (by omega) Hr).mono ?_); rintro e w' ⟨rfl, rfl⟩) | (go_at_call 9; (with_reducible refine (within_at (fl (n - 1 - k)) 3 q' _ (by omega) (by omega) Hq2).mono ?_); rintro e w' ⟨rfl, rfl⟩) | (go_at_call 9; (with_reducible refine (within_at (fa (n - 1 - k)) 1000 r' _ (by omega) (by omega) Hr2).mono ?_); rintro e w' ⟨rfl, rfl⟩) | (go_at_call 10; (with_reducible refine (CM.out).mono ?_); rintro e w5 ⟨rfl, O5, q5, s5⟩; have QB5 := Lib.hid ((R6.out.below (below_drew wd)).step s5 (by decide) (by decide)); have QA5 := Lib.hid q5; have ux2 := (free_step13 s5 OX.out.1 (by decide) Dx2.out).2; have ux3 := (free_step13 s5 OX.out.1 (by decide) Dx3.out).2; have uy2 := (free_step13 s5 OX.out.2 (by decide) Dy2.out).2; have uy3 := (free_step13 s5 OX.out.2 (by decide) Dy3.out).2; have OX5 : Hid (O5 X = 0 ∧ O5 Y = 0) := Lib.hid ⟨(free_step13 s5 OX.out.1 (by decide) Dx2.out).1, (free_step13 s5 OX.out.2 (by decide) Dy2.out).1⟩; clear q5 s5) | (go_at_call 10; (refine (qvadd (x := fun j => x (n - 1 - j)) QB5.out (by decide) (by omega) (fun j _ => HFW.out _) _ _ _ YK.out).mono ?_); rintro e w6 ⟨rfl, O6, q6, s6⟩; have QA6 := Lib.hid (QA5.out.step s6 (by decide) (by decide)); have QB6 := Lib.hid q6; have vx2 := (free_step13 s6 OX5.out.1 (by decide) ux2).2; have vx3 := (free_step13 s6 OX5.out.1 (by decide) ux3).2; have vy2 := (free_step13 s6 OX5.out.2 (by decide) uy2).2; have vy3 := (free_step13 s6 OX5.out.2 (by decide) uy3).2; clear q6 s6))
          go_wp2
          go_roundg (n - (k + 1))
          case measure => have := HGK.out; omega
          case rel => exact ⟨k + 1, O6, by omega, rfl, by go_num, QA6.out, QB6.out⟩
      · obtain rfl : k = n := by omega
        clear hlt
        obtain ⟨m, g, bS, hT⟩ := Q3.out.is
        have eS := bget_rev x k
        have eT := btot_rev x k
        have BS := Lib.hid bS
        have BS2 : Hid (VIs (bget (fun j => x (k - 1 - j)) k) m g) := Lib.hid (by rw [eS]; exact bS)
        have ET := Lib.hid eT
        have hm9 : m ≤ 9 := came_nine bS fun j _ => HNN.out j
        obtain ⟨m0, g0, iv0⟩ := Q3.out.now.told
        obtain ⟨e0, eg0⟩ := iv0.is.uniq bS
        subst e0
        have hbd : ∀ j, j < m0 → 0 ≤ (g j).a ∧ (g j).a ≤ 100000000000 := fun j hj => by
          have h1 := iv0.one hj
          have h2 := iv0.all
          rw [eg0 j hj] at h1
          omega
        have HBD := Lib.hid hbd
        have C1 := Lib.hid (pvrows Q3.out.now bS)
        clear bS hT eS eT hbd iv0 eg0
        go_wp2_with fail
        refine (C1.out).mono ?_
        rintro e w8 ⟨A1, c1, rfl, hc1, hm1, ho1, hb1⟩
        obtain ⟨O9, m9, st9⟩ := fresh_marked Q3.out.now.fin Q3.out.now.low.size hb1 ho1 3
        have QA := Lib.hid (Q3.out.step (st9 3) (by decide) (by decide))
        have qb := Q4.out.step (st9 3) (by decide) (by decide)
        have T9 : Hid (LTV w8 O9 wr.heap.size 3 (.slice A1 m0 c1) m0 g) := Lib.hid ⟨ho1, fun b hb => (m9 b hb).1⟩
        have QB := Lib.hid qb
        have C2 := Lib.hid (pvrows qb.now BS2.out)
        clear ho1 hb1 m9 st9 qb C1
        go_wp2_with fail
        refine (C2.out).mono ?_
        rintro e w10 ⟨A2, c2, rfl, hc2, hm2, ho2, hb2⟩
        replace QA := Lib.hid (QA.out.below hb2)
        replace QB := Lib.hid (QB.out.below hb2)
        replace T9 := Lib.hid (T9.out.below hb2)
        have at1 : AtR ve 3 w10 A1 m0 g := by
          obtain ⟨_, _, e, _, _, _, h⟩ := T9.out.own.at ve_len
          injection e with e1 _ _
          rw [e1]; exact h
        have at2 : AtR ve 3 w10 A2 m0 g := by
          obtain ⟨_, _, e, _, _, _, h⟩ := ho2.at ve_len
          injection e with e1 _ _
          rw [e1]; exact h
        have C3 := Lib.hid (vsame_true A1 A2 m0 c1 c2 g g w10 at1 at2 (by omega) fun _ _ => rfl)
        clear ho2 hb2 at1 at2 C2
        go_wp2_with fail
        refine (C3.out).mono ?_
        rintro e w11 ⟨rfl, hb3⟩
        replace QA := Lib.hid (QA.out.below hb3)
        replace QB := Lib.hid (QB.out.below hb3)
        replace T9 := Lib.hid (T9.out.below hb3)
        clear hb3 C3
        obtain ⟨H, hH⟩ : ∃ H, H = wr.heap.size := ⟨_, rfl⟩
        rw [← hH] at T9
        clear hH
        go_wp2_with fail
        go_loopg [89] m0 (fun gh s89 wz => ∃ (i : Nat) (g' : Nat → Bk), i ≤ m0 ∧ gh = m0 - i ∧ s89 = .int .i64 i ∧ QV w wz O9 1 ra (bget x k) (btot x k) ∧ QV w wz O9 2 rb (bget (fun j => x (k - 1 - j)) k) (btot (fun j => x (k - 1 - j)) k) ∧ LTV wz O9 H 3 (.slice A1 m0 c1) m0 g' ∧ ∀ j, i ≤ j → g' j = g j)
        case atStart => exact ⟨0, g, Nat.zero_le _, rfl, rfl, QA.out, QB.out, T9.out, fun _ _ => rfl⟩
        case round =>
          obtain ⟨i, g', hi, hgi, rfl, qa, qb, tt, hg'⟩ := hrel
          have HGI := Lib.hid hgi
          have RA := Lib.hid qa
          have RB := Lib.hid qb
          have RT := Lib.hid tt
          have HG := Lib.hid hg'
          clear hgi qa qb tt hg' QA QB T9
          by_cases him : i < m0
          · obtain ⟨b1, c1', e, h1, h2, hb1, hb2, hcell, hfz⟩ := RT.out.own.some ve_len (by omega)
            injection e with e1 _ e3
            subst e1 e3
            have k2' := hcell i him 2 _ rfl
            have f2 := hfz (i * 3 + 2)
            rw [HG.out i (Nat.le_refl _)] at k2'
            have hbd := HBD.out i him
            obtain ⟨z, hz⟩ : ∃ z, g i = z := ⟨_, rfl⟩
            rw [hz] at k2' hbd
            have ew : IntKind.i64.wrap (z.a + 1) = z.a + 1 := IntWalk.i64_in _ (by omega)
            have i0 : (0 : Int) ≤ (i : Int) := by omega
            have i1 : (i : Int) < (m0 : Int) := by omega
            have os := RT.out.own.setc ve_len i 2 ⟨z.c, z.y, z.a + 1⟩ (.int .i64 (z.a + 1)) him (by decide) (fun d hd => by
              rw [HG.out i (Nat.le_refl _), hz]
              match d, hd with
              | 0, _ => simp [ve]
              | 1, _ => simp [ve]
              | 2, h => exact absurd rfl h
              | d + 3, _ => simp [ve]) rfl
            have OS := Lib.hid os
            have ot := RT.out.tag b1 rfl
            have st := Step.set (t := 3) RA.out.now.fin (i * 3 + 2) (.int .i64 (z.a + 1)) ot
            have RA2 := Lib.hid (RA.out.step st (by decide) (by decide))
            have RB2 := Lib.hid (RB.out.step st (by decide) (by decide))
            clear hcell hfz hbd hz os ot st
            go_wp2
            go_roundg (m0 - (i + 1))
            case measure => have := HGI.out; omega
            case rel => exact ⟨i + 1, _, by omega, rfl, by go_num, RA2.out, RB2.out, ⟨OS.out, RT.out.tag⟩, fun j hj => (if_neg (by omega)).trans (HG.out j (by omega))⟩
          · obtain rfl : i = m0 := by omega
            clear him HG
            have C1 := Lib.hid (pvrows RA.out.now BS.out)
            go_wp2_with fail
            refine (C1.out).mono ?_
            rintro e wa1 ⟨A3, c3, rfl, _, _, ho3, hb3⟩
            have RA3 := Lib.hid (RA.out.below hb3)
            have RB3 := Lib.hid (RB.out.below hb3)
            have C2 := Lib.hid (pvrows RB3.out.now BS2.out)
            have at3 : AtR ve 3 wa1 A3 i g := by
              obtain ⟨_, _, e, _, _, _, h⟩ := ho3.at ve_len
              injection e with e1 _ _
              rw [e1]; exact h
            have AT3 := Lib.hid at3
            clear ho3 hb3 C1 at3
            go_wp2_with fail
            refine (C2.out).mono ?_
            rintro e wa2 ⟨A4, c4, rfl, _, _, ho4, hb4⟩
            have at4 : AtR ve 3 wa2 A4 i g := by
              obtain ⟨_, _, e, _, _, _, h⟩ := ho4.at ve_len
              injection e with e1 _ _
              rw [e1]; exact h
            have RA4 := Lib.hid (RA3.out.below hb4)
            have RB4 := Lib.hid (RB3.out.below hb4)
            have C3 := Lib.hid (vsame_true A3 A4 i c3 c4 g g wa2 (AT3.out.below hb4) at4 (by omega) fun _ _ => rfl)
            clear ho4 hb4 C2 at4
            go_wp2_with fail
            refine (C3.out).mono ?_
            rintro e wa3 ⟨rfl, hb5⟩
            have RA5 := Lib.hid (RA4.out.below hb5)
            have RB5 := Lib.hid (RB4.out.below hb5)
            clear hb5 C3
            have C7 := Lib.hid (qvleft RA5.out)
            go_wp2_with fail
            refine (C7.out).mono ?_
            rintro e w15 ⟨rfl, hb6⟩
            have RA6 := Lib.hid (RA5.out.below hb6)
            have RB6 := Lib.hid (RB5.out.below hb6)
            have C8 := Lib.hid (qvleft RB6.out)
            rw [ET.out] at C8
            clear hb6 C7
            go_wp2_with fail
            refine (C8.out).mono ?_
            rintro e w16 ⟨rfl, hb7⟩
            have SA := Lib.hid (RA6.out.below hb7)
            have SB := Lib.hid (RB6.out.below hb7)
            have hmk := run_make_row' (P := Try.prog) 34 3 (.int .i64 0) 8 Try.underlying34 int_info rfl .i64 .i64 i (by omega) (by omega)
            clear hb7 C8
            go_wp2_with fail
            have r3 := made_row w16 i 3
            have CT := Lib.hid (qvtake0 (SA.out.below ((Below.refl w16.heap.size w16).alloc (Nat.le_refl _) (.cells (madeCells #[.int .i64 0] i) 3))) (by decide) BS.out (U := some ⟨w16.heap.size, 0, none⟩) (c := i) (.inr ⟨w16.heap.size, 0, rfl, r3.1, fun j hj => by rw [Nat.zero_add]; exact (r3.2 j hj).1⟩) (fun b off e => by injection e with e; injection e with e1 _; rw [← e1, SA.out.now.fin.2 _ (Nat.le_refl _)]; decide))
            clear r3 hmk
            refine (CT.out).mono ?_
            rintro e w17 ⟨rfl, O17, q17, s17⟩
            have UA := Lib.hid q17
            have UB := Lib.hid ((SB.out.below ((Below.refl w16.heap.size w16).alloc (Nat.le_refl _) (.cells (madeCells #[.int .i64 0] i) 3))).step s17 (by decide) (by decide))
            clear q17 s17 CT
            have D1 := Lib.hid (pvrows UA.out.now BS.out)
            go_wp2_with fail
            refine (D1.out).mono ?_
            rintro e wb1 ⟨A5, c5, rfl, _, _, ho3, hb3⟩
            have UA3 := Lib.hid (UA.out.below hb3)
            have UB3 := Lib.hid (UB.out.below hb3)
            have D2 := Lib.hid (pvrows UB3.out.now BS2.out)
            have at3 : AtR ve 3 wb1 A5 i g := by
              obtain ⟨_, _, e, _, _, _, h⟩ := ho3.at ve_len
              injection e with e1 _ _
              rw [e1]; exact h
            have AT3 := Lib.hid at3
            clear ho3 hb3 D1 at3
            go_wp2_with fail
            refine (D2.out).mono ?_
            rintro e wb2 ⟨A6, c6, rfl, _, _, ho4, hb4⟩
            have at4 : AtR ve 3 wb2 A6 i g := by
              obtain ⟨_, _, e, _, _, _, h⟩ := ho4.at ve_len
              injection e with e1 _ _
              rw [e1]; exact h
            have UA4 := Lib.hid (UA3.out.below hb4)
            have UB4 := Lib.hid (UB3.out.below hb4)
            have D3 := Lib.hid (vsame_true A5 A6 i c5 c6 g g wb2 (AT3.out.below hb4) at4 (by omega) fun _ _ => rfl)
            clear ho4 hb4 D2 at4
            go_wp2_with fail
            refine (D3.out).mono ?_
            rintro e wb3 ⟨rfl, hb5⟩
            have UA5 := Lib.hid (UA4.out.below hb5)
            have UB5 := Lib.hid (UB4.out.below hb5)
            clear hb5 D3
            go_wp2_with fail
            refine (wakes13_any _).mono ?_
            rintro e w18 ⟨rfl, hb8⟩
            have L8 := Lib.hid (UB5.out.below hb8).now.low
            clear hb8
            go_wp2
            go_ret
            exact ⟨rfl, L8.out⟩
end Go.Proofs.Ytdjepibgpgeifaa
