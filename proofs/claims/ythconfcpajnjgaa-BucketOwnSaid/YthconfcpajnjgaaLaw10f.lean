/- BucketOwn: its walk. -/
import Derived.Test.YthconfcpajnjgaaLaw10d
import Derived.Test.YthconfcpajnjgaaBkMath3
import Derived.WalkKit
import Derived.WalkSpells
import Derived.WalkLawsBesides
import Derived.Lib.Hide
import Derived.IntWalk
import Derived.Deep.LoopGhost
import Derived.Deep.RegionHeld3
import Derived.Deep.DeepCutAuto
import Derived.Deep.CutBlock
namespace Go.Proofs.Ythconfcpajnjgaa
open Go.RowKit

/-- a register of which the buckets and their sum are known, under a mark -/
structure QK (w0 w : World) (O : Nat → Nat) (t sb : Nat) (S : Int → Int → Int) (T : Int) : Prop where
  now : NowP w0 w O t sb S
  is : ∃ m g, BIs S m g ∧ btot g m = T
/-- a small move among few places -/
def Few (z : Bk) : Prop := (1 ≤ z.c ∧ z.c ≤ 3 ∧ 0 ≤ z.y ∧ z.y ≤ 3) ∧ -500 ≤ z.a ∧ z.a ≤ 500
theorem own_move {x : Nat → Bk} {k m : Nat} {g : Nat → Bk} (hk : k < 10) (hx : ∀ j, j < k + 1 → Few (x j)) (b : BIs (bget x k) m g) (hT : btot g m = btot x k) : MErr (bget x k) m (btot g m) (x k).c (x k).y (x k).a 0 := by
  have fk := hx k (by omega)
  unfold Few at fk
  have ok : BOk (x k).c (x k).y := by unfold BOk; omega
  have b1 := bget_bd x k (fun j hj => (hx j (by omega)).2) (x k).c (x k).y
  have b2 := btot_bd x k (fun j hj => (hx j (by omega)).2)
  refine .ok ⟨ok, by unfold Mon; omega⟩ ⟨by unfold Mon; omega, by rw [hT]; unfold Mon; omega⟩ ?_
  obtain ⟨m', h', k1, _, k3⟩ := bis_set b ok (bget x k (x k).c (x k).y + (x k).a)
  rw [bget_step] at k1
  have := few k1 fun j hj => (hx j hj).1
  unfold cntB
  omega
section
variable {w0 w w1 : World} {O O1 : Nat → Nat} {t t' sb : Nat} {S : Int → Int → Int} {T : Int}
theorem QK.below (h : QK w0 w O t sb S T) (k : Below w.heap.size w w1) : QK w0 w1 O t sb S T := ⟨h.now.below k, h.is⟩
theorem QK.step (h : QK w0 w O t sb S T) (k : Step w0.heap.size O t' w O1 w1) (h1 : t ≠ t') (h2 : t' ≠ 0) : QK w0 w1 O1 t sb S T := ⟨h.now.step k h1 h2, h.is⟩
theorem qknew (fn : Fin0 w0.heap.size O w) (lo : Below w0.heap.size w0 w) (t : Nat) (x : Nat → Bk) :
    Calls Try.prog 8 #[] w fun e w' => ∃ sb O', e = .returned (ptr sb) ∧ QK w0 w' O' t sb (bget x 0) (btot x 0) ∧ ∀ t', Step w0.heap.size O t' w O' w' := by
  refine (pbnew w0 w O fn lo t).mono ?_
  rintro e w' ⟨sb, O', rfl, h, st⟩
  exact ⟨sb, O', rfl, ⟨h, 0, x, bis_zero x, rfl⟩, st⟩
theorem qkmove {x : Nat → Bk} {k : Nat} (h : QK w0 w O t sb (bget x k) (btot x k)) (ht : t ≠ 0) (hk : k < 10) (hx : ∀ j, j < k + 1 → Few (x j)) (c y a : Int) (hz : x k = ⟨c, y, a⟩) :
    Calls Try.prog 10 #[ptr sb, .int .i64 c, .int .i64 y, .int .i64 a] w fun e' w' => e' = .returned (.int .i64 0) ∧ ∃ O', QK w0 w' O' t sb (bget x (k + 1)) (btot x (k + 1)) ∧ Step w0.heap.size O t w O' w' := by
  obtain ⟨m, g, b, hT⟩ := h.is
  have he := own_move hk hx b hT
  have fk := hx k (by omega)
  have hs := bget_step x k
  have ht' : btot x (k + 1) = btot x k + (x k).a := rfl
  rw [hz] at he fk hs ht'
  refine (pbmove h.now ht b c y a 0 he).mono ?_
  rintro e' w' ⟨rfl, O', h', st⟩
  have h'' : NowP w0 w' O' t sb (upS (bget x k) c y (bget x k c y + a)) := h'
  dsimp only at hs
  obtain ⟨m', g', iv⟩ := h''.told
  obtain ⟨_, k2⟩ := bis_count b (by unfold Few at fk; unfold BOk; dsimp only at fk; omega) iv.is
  rw [hs] at h'' iv
  exact ⟨rfl, O', ⟨h'', m', g', iv.is, by rw [ht', k2, hT]; dsimp only; omega⟩, st⟩
theorem qktotal (h : QK w0 w O t sb S T) :
    Calls Try.prog 11 #[ptr sb] w fun e w' => e = .returned (.int .i64 T) ∧ Below w.heap.size w w' := by
  obtain ⟨m, g, b, e⟩ := h.is
  refine (pbtotal h.now b).mono ?_
  rintro e' w' ⟨rfl, hb⟩
  exact ⟨by rw [e], hb⟩
end
/-- the things done, each of their numbers as a function -/
theorem Acts10.fn {w : World} {A : Option Addr} {n : Nat} (h : Acts10 w A n) : ∃ fd fc fy fe fz fa : Nat → Int, ∀ k, k < n → ∃ b off, A = Option.some ⟨b, off, none⟩ ∧ b < w.heap.size ∧ (∀ j, j < n → Act10 w b (off + j * 6) (fd j) (fc j) (fy j) (fe j) (fz j) (fa j)) := by
  rcases h with h | ⟨b, off, e, hb, hc⟩
  · exact ⟨fun _ => 0, fun _ => 0, fun _ => 0, fun _ => 0, fun _ => 0, fun _ => 0, fun k hk => by omega⟩
  · have hc' : ∀ k, ∃ t : Int × Int × Int × Int × Int × Int, k < n → Act10 w b (off + k * 6) t.1 t.2.1 t.2.2.1 t.2.2.2.1 t.2.2.2.2.1 t.2.2.2.2.2 := fun k => by
      by_cases q : k < n
      · obtain ⟨d, c, y, c2, y2, a, ha⟩ := hc k q
        exact ⟨(d, c, y, c2, y2, a), fun _ => ha⟩
      · exact ⟨(0, 0, 0, 0, 0, 0), fun z => absurd z q⟩
    obtain ⟨f, hf⟩ := Classical.axiomOfChoice hc'
    exact ⟨fun j => (f j).1, fun j => (f j).2.1, fun j => (f j).2.2.1, fun j => (f j).2.2.2.1, fun j => (f j).2.2.2.2.1, fun j => (f j).2.2.2.2.2, fun k hk => ⟨b, off, e, hb, fun j hj => hf j hj⟩⟩
/-- two blocks laid one behind the other -/
theorem two_lits (w : World) (l l' : List Value) (T T' : TypeId) :
    (∀ j u, l[j]? = some u → ((w.alloc (.cells l.toArray T)).alloc (.cells l'.toArray T')).cell? ⟨w.heap.size, j, none⟩ = some u) ∧
    (∀ j u, l'[j]? = some u → ((w.alloc (.cells l.toArray T)).alloc (.cells l'.toArray T')).cell? ⟨w.heap.size + 1, j, none⟩ = some u) ∧
    Below w.heap.size w ((w.alloc (.cells l.toArray T)).alloc (.cells l'.toArray T')) :=
  ⟨fun j u hu => cell_keep (rec_lit w l T w.heap.size rfl j u hu) ((Below.refl _ _).alloc (Nat.le_refl _) _),
   fun j u hu => rec_lit (w.alloc (.cells l.toArray T)) l' T' (w.heap.size + 1) (by simp) j u hu, ((Below.refl _ _).alloc (Nat.le_refl _) _).alloc (by simp) _⟩
set_option maxHeartbeats 8000000 in
set_option maxRecDepth 100000 in
theorem bucketOwn_walk (a0 : Option Addr) (len0 cap0 : Nat) (w : World) (w0 : Acts10 w a0 len0) :
    Calls Try.prog 4 #[.slice a0 len0 cap0] w fun e w' => e = .returned (.bool true) ∧ Below w.heap.size w w' := by
  obtain ⟨fd, fc, fy, fe, fz, fa, hf⟩ := w0.fn
  have HA := Lib.hid hf
  obtain ⟨x, hx⟩ : ∃ x : Nat → Bk, x = fun j => ⟨1 + fc j % 3, fy j % 4, fa j % 1000 - 500⟩ := ⟨_, rfl⟩
  have hfew : ∀ j, Few (x j) := fun j => by rw [hx]; unfold Few; dsimp only; omega
  have HX := Lib.hid hx
  have HFW := Lib.hid hfew
  obtain ⟨n, hn⟩ : ∃ n : Nat, n = min len0 10 := ⟨_, rfl⟩
  have CN := Lib.hid (qknew (Fin0.zero w.heap.size w) (Below.refl _ _) 1 x)
  clear w0 hf hx hfew
  go_enter Try.func4, Try.ntmps4
  go_wp2_with fail
  refine (CN.out).mono ?_
  rintro e w1 ⟨ra, O1, rfl, q1, st1⟩
  have CN2 := Lib.hid (qknew q1.now.fin q1.now.low 2 (fun j => x (n - 1 - j)))
  have Q1 := Lib.hid q1
  clear CN q1 st1
  go_wp2_with fail
  refine (CN2.out).mono ?_
  rintro e w2 ⟨rb, O2, rfl, q2, st2⟩
  have QA := Lib.hid (Q1.out.step (st2 2) (by decide) (by decide))
  have QB := Lib.hid q2
  clear CN2 q2 st2 Q1
  have hn10 : n ≤ 10 := by omega
  have hnl : n ≤ len0 := by omega
  have hmin : (n : Int) = min (len0 : Int) 10 := by omega
  have HMIN := Lib.hid hmin
  clear hn hmin
  go_wp2_with fail
  all_goals
    have hmin := HMIN.out
    first
    | rw [show (Value.int IntKind.i64 10) = Value.int IntKind.i64 (n : Int) from congrArg _ (by omega)]
    | rw [show (Value.int IntKind.i64 (len0 : Int)) = Value.int IntKind.i64 (n : Int) from congrArg _ (by omega)]
    clear hmin
    go_loopg [6] n (fun gh s6 wr => ∃ (k : Nat) (O : Nat → Nat), k ≤ n ∧ gh = n - k ∧ s6 = .int .i64 k ∧ QK w wr O 1 ra (bget x k) (btot x k) ∧ QK w wr O 2 rb (bget (fun j => x (n - 1 - j)) k) (btot (fun j => x (n - 1 - j)) k))
    case atStart => exact ⟨0, O2, Nat.zero_le _, rfl, rfl, QA.out, QB.out⟩
    case round =>
      obtain ⟨k, O, hk, hgk, rfl, qa, qb⟩ := hrel
      have HGK := Lib.hid hgk
      have Q3 := Lib.hid qa
      have Q4 := Lib.hid qb
      clear hgk qa qb QA QB
      by_cases hlt : k < n
      · obtain ⟨b, off, rfl, hb, ha⟩ := HA.out k (by omega)
        have a1 := (ha k (by omega)).below Q3.out.now.low
        have a2 := (ha (n - 1 - k) (by omega)).below Q3.out.now.low
        have hbl := Nat.lt_of_lt_of_le hb Q3.out.now.low.size
        obtain ⟨j0, j1, j2, j3, j4, j5, _⟩ := a1
        obtain ⟨i0, i1, i2, i3, i4, i5, _⟩ := a2
        have k0 : (0 : Int) ≤ (k : Int) := by omega
        have k1 : (k : Int) < (len0 : Int) := by omega
        have k2 : (k : Int) < (n : Int) := by omega
        have k3 : IntKind.i64.wrap ((n : Int) - 1) = (n : Int) - 1 := IntWalk.i64_in _ (by omega)
        have k4 : IntKind.i64.wrap ((n : Int) - 1 - (k : Int)) = (n : Int) - 1 - (k : Int) := IntWalk.i64_in _ (by omega)
        have k5 : (0 : Int) ≤ (n : Int) - 1 - (k : Int) := by omega
        have k6 : (n : Int) - 1 - (k : Int) < (len0 : Int) := by omega
        have k7 : ((n : Int) - 1 - (k : Int)).toNat = n - 1 - k := by omega
        have k8 : (k : Int) ≤ (n : Int) - 1 := by omega
        clear ha
        have n1 : b ≠ wr.heap.size := by omega
        have n2 : b ≠ wr.heap.size + 1 := by omega
        go_wp2
        go_cut [7, 8] (fun s7 s8 wx => ∃ X Y : Nat, s7 = ptr X ∧ s8 = ptr Y ∧ wr.heap.size ≤ X ∧ wr.heap.size ≤ Y ∧ wx.cell? ⟨X, 1, none⟩ = some (.int .i64 (fc k)) ∧ wx.cell? ⟨X, 2, none⟩ = some (.int .i64 (fy k)) ∧ wx.cell? ⟨X, 5, none⟩ = some (.int .i64 (fa k)) ∧ wx.cell? ⟨Y, 1, none⟩ = some (.int .i64 (fc (n - 1 - k))) ∧ wx.cell? ⟨Y, 2, none⟩ = some (.int .i64 (fy (n - 1 - k))) ∧ wx.cell? ⟨Y, 5, none⟩ = some (.int .i64 (fa (n - 1 - k))) ∧ Below wr.heap.size wr wx)
        case first =>
          go_region_held3 (fun w' => w'.cell? ⟨b, off + k * 6, none⟩ = some (.int .i64 (fd k)) ∧ w'.cell? ⟨b, off + k * 6 + 1, none⟩ = some (.int .i64 (fc k)) ∧ w'.cell? ⟨b, off + k * 6 + 2, none⟩ = some (.int .i64 (fy k)) ∧ w'.cell? ⟨b, off + k * 6 + 3, none⟩ = some (.int .i64 (fe k)) ∧ w'.cell? ⟨b, off + k * 6 + 4, none⟩ = some (.int .i64 (fz k)) ∧ w'.cell? ⟨b, off + k * 6 + 5, none⟩ = some (.int .i64 (fa k)) ∧ w'.cell? ⟨b, off + (n - 1 - k) * 6, none⟩ = some (.int .i64 (fd (n - 1 - k))) ∧ w'.cell? ⟨b, off + (n - 1 - k) * 6 + 1, none⟩ = some (.int .i64 (fc (n - 1 - k))) ∧ w'.cell? ⟨b, off + (n - 1 - k) * 6 + 2, none⟩ = some (.int .i64 (fy (n - 1 - k))) ∧ w'.cell? ⟨b, off + (n - 1 - k) * 6 + 3, none⟩ = some (.int .i64 (fe (n - 1 - k))) ∧ w'.cell? ⟨b, off + (n - 1 - k) * 6 + 4, none⟩ = some (.int .i64 (fz (n - 1 - k))) ∧ w'.cell? ⟨b, off + (n - 1 - k) * 6 + 5, none⟩ = some (.int .i64 (fa (n - 1 - k)))) (first | go_keep) (fail)
          all_goals
            go_wp2
            go_meet
            first
            | (obtain ⟨t1, t2, t3⟩ := two_lits wr [.int .i64 (fd k), .int .i64 (fc k), .int .i64 (fy k), .int .i64 (fe k), .int .i64 (fz k), .int .i64 (fa k)] [.int .i64 (fd (n - 1 - k)), .int .i64 (fc (n - 1 - k)), .int .i64 (fy (n - 1 - k)), .int .i64 (fe (n - 1 - k)), .int .i64 (fz (n - 1 - k)), .int .i64 (fa (n - 1 - k))] 35 35
               exact ⟨_, _, rfl, rfl, by omega, by omega, t1 1 _ rfl, t1 2 _ rfl, t1 5 _ rfl, t2 1 _ rfl, t2 2 _ rfl, t2 5 _ rfl, t3.drew⟩)
            | (obtain ⟨t1, t2, t3⟩ := two_lits wr [.int .i64 (fd (n - 1 - k)), .int .i64 (fc (n - 1 - k)), .int .i64 (fy (n - 1 - k)), .int .i64 (fe (n - 1 - k)), .int .i64 (fz (n - 1 - k)), .int .i64 (fa (n - 1 - k))] [.int .i64 (fd k), .int .i64 (fc k), .int .i64 (fy k), .int .i64 (fe k), .int .i64 (fz k), .int .i64 (fa k)] 35 35
               exact ⟨_, _, rfl, rfl, by omega, by omega, t2 1 _ rfl, t2 2 _ rfl, t2 5 _ rfl, t1 1 _ rfl, t1 2 _ rfl, t1 5 _ rfl, t3.drew⟩)
        case rest =>
          obtain ⟨X, Y, rfl, rfl, hX, hY, x1, x2, x5, y1, y2, y5, hbc⟩ := hcut
          have Q5 := Lib.hid (Q3.out.below hbc)
          have Q6 := Lib.hid (Q4.out.below hbc)
          have OX : Hid (O X = 0 ∧ O Y = 0) := Lib.hid ⟨Q3.out.now.fin.2 X hX, Q3.out.now.fin.2 Y hY⟩
          clear hbc n1 n2 j0 j1 j2 j3 j4 j5 i0 i1 i2 i3 i4 i5 k3 k4 k5 k6 k7 k8
          have Dx1 : Hid (wc.drew.cell? ⟨X, 1, none⟩ = some (.int .i64 (fc k))) := Lib.hid x1
          have Dx2 : Hid (wc.drew.cell? ⟨X, 2, none⟩ = some (.int .i64 (fy k))) := Lib.hid x2
          have Dx5 : Hid (wc.drew.cell? ⟨X, 5, none⟩ = some (.int .i64 (fa k))) := Lib.hid x5
          have Dy1 : Hid (wc.drew.cell? ⟨Y, 1, none⟩ = some (.int .i64 (fc (n - 1 - k)))) := Lib.hid y1
          have Dy2 : Hid (wc.drew.cell? ⟨Y, 2, none⟩ = some (.int .i64 (fy (n - 1 - k)))) := Lib.hid y2
          have Dy5 : Hid (wc.drew.cell? ⟨Y, 5, none⟩ = some (.int .i64 (fa (n - 1 - k)))) := Lib.hid y5
          obtain ⟨p, hp⟩ : ∃ z, fc k % 3 = z := ⟨_, rfl⟩
          obtain ⟨q, hq⟩ : ∃ z, fy k % 4 = z := ⟨_, rfl⟩
          obtain ⟨r, hr⟩ : ∃ z, fa k % 1000 = z := ⟨_, rfl⟩
          obtain ⟨p', hp2⟩ : ∃ z, fc (n - 1 - k) % 3 = z := ⟨_, rfl⟩
          obtain ⟨q', hq2⟩ : ∃ z, fy (n - 1 - k) % 4 = z := ⟨_, rfl⟩
          obtain ⟨r', hr2⟩ : ∃ z, fa (n - 1 - k) % 1000 = z := ⟨_, rfl⟩
          have ew1 : IntKind.i64.wrap (1 + p) = 1 + p := IntWalk.i64_in _ (by omega)
          have ew2 : IntKind.i64.wrap (r - 500) = r - 500 := IntWalk.i64_in _ (by omega)
          have ew3 : IntKind.i64.wrap (1 + p') = 1 + p' := IntWalk.i64_in _ (by omega)
          have ew4 : IntKind.i64.wrap (r' - 500) = r' - 500 := IntWalk.i64_in _ (by omega)
          have Hp := Lib.hid hp
          have Hq := Lib.hid hq
          have Hr := Lib.hid hr
          have Hp2 := Lib.hid hp2
          have Hq2 := Lib.hid hq2
          have Hr2 := Lib.hid hr2
          clear hp hq hr hp2 hq2 hr2
          have XK : Hid (x k = ⟨1 + p, q, r - 500⟩) := Lib.hid (by rw [HX.out]; dsimp only; rw [Hp.out, Hq.out, Hr.out])
          have YK : Hid ((fun j => x (n - 1 - j)) k = ⟨1 + p', q', r' - 500⟩) := Lib.hid (by rw [HX.out]; dsimp only; rw [Hp2.out, Hq2.out, Hr2.out])
          have CM := Lib.hid (qkmove (Q5.out.below (below_drew wc)) (by decide) (by omega) (fun j _ => HFW.out j) _ _ _ XK.out)
          go_wp2
          go_region_held3 (fun w' => w'.cell? ⟨X, 1, none⟩ = some (.int .i64 (fc k)) ∧ w'.cell? ⟨X, 2, none⟩ = some (.int .i64 (fy k)) ∧ w'.cell? ⟨X, 5, none⟩ = some (.int .i64 (fa k)) ∧ w'.cell? ⟨Y, 1, none⟩ = some (.int .i64 (fc (n - 1 - k))) ∧ w'.cell? ⟨Y, 2, none⟩ = some (.int .i64 (fy (n - 1 - k))) ∧ w'.cell? ⟨Y, 5, none⟩ = some (.int .i64 (fa (n - 1 - k)))) (first | go_keep) (first | (go_at_call 9; (with_reducible refine (within_at (fc k) 3 p _ (by omega) (by omega) Hp).mono ?_); rintro e w' ⟨rfl, rfl⟩) | (go_at_call 9; (with_reducible refine (within_at (fy k) 4 q _ (by omega) (by omega) Hq).mono ?_); rintro e w' ⟨rfl, rfl⟩) | (go_at_call 9; (with_reducible refine (within_at (fa k) 1000 r _ (by omega) (by omega) Hr).mono ?_); rintro e w' ⟨rfl, rfl⟩) | (go_at_call 9; (with_reducible refine (within_at (fc (n - 1 - k)) 3 p' _ (by omega) (by omega) Hp2).mono ?_); rintro e w' ⟨rfl, rfl⟩) | (go_at_call 9; (with_reducible refine (within_at (fy (n - 1 - k)) 4 q' _ (by omega) (by omega) Hq2).mono ?_); rintro e w' ⟨rfl, rfl⟩) | (go_at_call 9; (with_reducible refine (within_at (fa (n - 1 - k)) 1000 r' _ (by omega) (by omega) Hr2).mono ?_); rintro e w' ⟨rfl, rfl⟩) | (go_at_call 10; (with_reducible refine (CM.out).mono ?_); rintro e w5 ⟨rfl, O5, q5, s5⟩; have QB5 := Lib.hid ((Q6.out.below (below_drew wc)).step s5 (by decide) (by decide)); have QA5 := Lib.hid q5; have ux1 := (free_step s5 OX.out.1 (by decide) Dx1.out).2; have ux2 := (free_step s5 OX.out.1 (by decide) Dx2.out).2; have ux5 := (free_step s5 OX.out.1 (by decide) Dx5.out).2; have uy1 := (free_step s5 OX.out.2 (by decide) Dy1.out).2; have uy2 := (free_step s5 OX.out.2 (by decide) Dy2.out).2; have uy5 := (free_step s5 OX.out.2 (by decide) Dy5.out).2; have OX5 : Hid (O5 X = 0 ∧ O5 Y = 0) := Lib.hid ⟨(free_step s5 OX.out.1 (by decide) Dx1.out).1, (free_step s5 OX.out.2 (by decide) Dy1.out).1⟩; clear q5 s5) | (go_at_call 10; (refine (qkmove (x := fun j => x (n - 1 - j)) QB5.out (by decide) (by omega) (fun j _ => HFW.out _) _ _ _ YK.out).mono ?_); rintro e w6 ⟨rfl, O6, q6, s6⟩; have QA6 := Lib.hid (QA5.out.step s6 (by decide) (by decide)); have QB6 := Lib.hid q6; have vx1 := (free_step s6 OX5.out.1 (by decide) ux1).2; have vx2 := (free_step s6 OX5.out.1 (by decide) ux2).2; have vx5 := (free_step s6 OX5.out.1 (by decide) ux5).2; have vy1 := (free_step s6 OX5.out.2 (by decide) uy1).2; have vy2 := (free_step s6 OX5.out.2 (by decide) uy2).2; have vy5 := (free_step s6 OX5.out.2 (by decide) uy5).2; clear q6 s6))
          go_wp2
          go_roundg (n - (k + 1))
          case measure => have := HGK.out; omega
          case rel => exact ⟨k + 1, O6, by omega, rfl, by go_num, QA6.out, QB6.out⟩
      · obtain rfl : k = n := by omega
        clear hlt
        obtain ⟨m, g, bS, hT⟩ := Q3.out.is
        have eS := bget_rev x k
        have eT := btot_rev x k
        have BS := Lib.hid bS
        have BS2 : Hid (BIs (bget (fun j => x (k - 1 - j)) k) m g) := Lib.hid (by rw [eS]; exact bS)
        have ET := Lib.hid eT
        have hm12 : m ≤ 12 := few bS fun j _ => (HFW.out j).1
        have hbd : ∀ j, j < m → -5000 ≤ (g j).a ∧ (g j).a ≤ 5000 := fun j hj => by
          have := bget_bd x k (fun j _ => (HFW.out j).2) (g j).c (g j).y
          rw [bS.at hj] at this
          omega
        have HBD := Lib.hid hbd
        have C1 := Lib.hid (pbrows Q3.out.now bS)
        clear bS hT eS eT hbd
        go_wp2_with fail
        refine (C1.out).mono ?_
        rintro e w8 ⟨A1, c1, rfl, hc1, hm1, ho1, hb1⟩
        obtain ⟨O9, m9, st9⟩ := fresh_marked Q3.out.now.fin Q3.out.now.low.size hb1 ho1 3
        have QA := Lib.hid (Q3.out.step (st9 3) (by decide) (by decide))
        have qb := Q4.out.step (st9 3) (by decide) (by decide)
        have T9 : Hid (LT w8 O9 wr.heap.size 3 (.slice A1 m c1) m g) := Lib.hid ⟨ho1, fun b hb => (m9 b hb).1⟩
        have QB := Lib.hid qb
        have C2 := Lib.hid (pbrows qb.now BS2.out)
        clear ho1 hb1 m9 st9 qb C1
        go_wp2_with fail
        refine (C2.out).mono ?_
        rintro e w10 ⟨A2, c2, rfl, hc2, hm2, ho2, hb2⟩
        replace QA := Lib.hid (QA.out.below hb2)
        replace QB := Lib.hid (QB.out.below hb2)
        replace T9 := Lib.hid (T9.out.below hb2)
        have at1 : AtR be 3 w10 A1 m g := by
          obtain ⟨_, _, e, _, _, _, h⟩ := T9.out.own.at be_len
          injection e with e1 _ _
          rw [e1]; exact h
        have at2 : AtR be 3 w10 A2 m g := by
          obtain ⟨_, _, e, _, _, _, h⟩ := ho2.at be_len
          injection e with e1 _ _
          rw [e1]; exact h
        have C3 := Lib.hid (bsame_true A1 A2 m c1 c2 g g w10 at1 at2 (by omega) fun _ _ => rfl)
        clear ho2 hb2 at1 at2 C2
        go_wp2_with fail
        refine (C3.out).mono ?_
        rintro e w11 ⟨rfl, hb3⟩
        replace QA := Lib.hid (QA.out.below hb3)
        replace QB := Lib.hid (QB.out.below hb3)
        replace T9 := Lib.hid (T9.out.below hb3)
        clear hb3 C3
        obtain ⟨H, hH⟩ : ∃ H, H = wr.heap.size := ⟨_, rfl⟩
        rw [← hH] at T9
        clear hH
        go_wp2_with fail
        go_loopg [77] m (fun gh s77 wz => ∃ (i : Nat) (g' : Nat → Bk), i ≤ m ∧ gh = m - i ∧ s77 = .int .i64 i ∧ QK w wz O9 1 ra (bget x k) (btot x k) ∧ QK w wz O9 2 rb (bget (fun j => x (k - 1 - j)) k) (btot (fun j => x (k - 1 - j)) k) ∧ LT wz O9 H 3 (.slice A1 m c1) m g' ∧ ∀ j, i ≤ j → g' j = g j)
        case atStart => exact ⟨0, g, Nat.zero_le _, rfl, rfl, QA.out, QB.out, T9.out, fun _ _ => rfl⟩
        case round =>
          obtain ⟨i, g', hi, hgi, rfl, qa, qb, tt, hg'⟩ := hrel
          have HGI := Lib.hid hgi
          have RA := Lib.hid qa
          have RB := Lib.hid qb
          have RT := Lib.hid tt
          have HG := Lib.hid hg'
          clear hgi qa qb tt hg' QA QB T9
          by_cases him : i < m
          · obtain ⟨b1, c1', e, h1, h2, hb1, hb2, hcell, hfz⟩ := RT.out.own.some be_len (by omega)
            injection e with e1 _ e3
            subst e1 e3
            have k2' := hcell i him 2 _ rfl
            have f2 := hfz (i * 3 + 2)
            rw [HG.out i (Nat.le_refl _)] at k2'
            have hbd := HBD.out i him
            obtain ⟨z, hz⟩ : ∃ z, g i = z := ⟨_, rfl⟩
            rw [hz] at k2' hbd
            have ew : IntKind.i64.wrap (z.a + 1) = z.a + 1 := IntWalk.i64_in _ (by omega)
            have i0 : (0 : Int) ≤ (i : Int) := by omega
            have i1 : (i : Int) < (m : Int) := by omega
            have os := RT.out.own.setc be_len i 2 ⟨z.c, z.y, z.a + 1⟩ (.int .i64 (z.a + 1)) him (by decide) (fun d hd => by
              rw [HG.out i (Nat.le_refl _), hz]
              match d, hd with
              | 0, _ => simp [be]
              | 1, _ => simp [be]
              | 2, h => exact absurd rfl h
              | d + 3, _ => simp [be]) rfl
            have OS := Lib.hid os
            have ot := RT.out.tag b1 rfl
            have st := Step.set (t := 3) RA.out.now.fin (i * 3 + 2) (.int .i64 (z.a + 1)) ot
            have RA2 := Lib.hid (RA.out.step st (by decide) (by decide))
            have RB2 := Lib.hid (RB.out.step st (by decide) (by decide))
            clear hcell hfz hbd hz os ot st
            go_wp2
            go_roundg (m - (i + 1))
            case measure => have := HGI.out; omega
            case rel => exact ⟨i + 1, _, by omega, rfl, by go_num, RA2.out, RB2.out, ⟨OS.out, RT.out.tag⟩, fun j hj => (if_neg (by omega)).trans (HG.out j (by omega))⟩
          · obtain rfl : i = m := by omega
            clear him
            have C4 := Lib.hid (pbrows RA.out.now BS.out)
            go_wp2_with fail
            refine (C4.out).mono ?_
            rintro e w12 ⟨A3, c3, rfl, _, _, ho3, hb3⟩
            have RA3 := Lib.hid (RA.out.below hb3)
            have RB3 := Lib.hid (RB.out.below hb3)
            have C5 := Lib.hid (pbrows RB3.out.now BS2.out)
            have at3 : AtR be 3 w12 A3 i g := by
              obtain ⟨_, _, e, _, _, _, h⟩ := ho3.at be_len
              injection e with e1 _ _
              rw [e1]; exact h
            have AT3 := Lib.hid at3
            clear ho3 hb3 C4 at3
            go_wp2_with fail
            refine (C5.out).mono ?_
            rintro e w13 ⟨A4, c4, rfl, _, _, ho4, hb4⟩
            have at4 : AtR be 3 w13 A4 i g := by
              obtain ⟨_, _, e, _, _, _, h⟩ := ho4.at be_len
              injection e with e1 _ _
              rw [e1]; exact h
            have RA4 := Lib.hid (RA3.out.below hb4)
            have RB4 := Lib.hid (RB3.out.below hb4)
            have C6 := Lib.hid (bsame_true A3 A4 i c3 c4 g g w13 (AT3.out.below hb4) at4 (by omega) fun _ _ => rfl)
            clear ho4 hb4 C5 at4
            go_wp2_with fail
            refine (C6.out).mono ?_
            rintro e w14 ⟨rfl, hb5⟩
            have RA5 := Lib.hid (RA4.out.below hb5)
            have RB5 := Lib.hid (RB4.out.below hb5)
            have C7 := Lib.hid (qktotal RA5.out)
            clear hb5 C6
            go_wp2_with fail
            refine (C7.out).mono ?_
            rintro e w15 ⟨rfl, hb6⟩
            have RB6 := Lib.hid (RB5.out.below hb6)
            have C8 := Lib.hid (qktotal RB6.out)
            rw [ET.out] at C8
            clear hb6 C7
            go_wp2_with fail
            refine (C8.out).mono ?_
            rintro e w16 ⟨rfl, hb7⟩
            have L7 := Lib.hid (RB6.out.now.low.trans (hb7.mono RB6.out.now.low.size))
            clear hb7 C8
            go_wp2_with fail
            refine (wakes10_any _).mono ?_
            rintro e w17 ⟨rfl, hb8⟩
            have L8 := Lib.hid (L7.out.trans (hb8.mono L7.out.size))
            clear hb8
            go_wp2
            go_ret
            exact ⟨rfl, L8.out⟩
end Go.Proofs.Ythconfcpajnjgaa
