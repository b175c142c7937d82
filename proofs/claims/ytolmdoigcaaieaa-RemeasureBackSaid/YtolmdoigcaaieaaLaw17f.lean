/- RemeasureBack: its walk. -/
import Derived.Test.YtolmdoigcaaieaaRmSel
import Derived.BigQuiet
import Derived.Deep.QuietTactic
import Derived.Deep.RegionHeld3
import Derived.Deep.DeepCutAuto
import Derived.Laws.StructEq
namespace Go.Proofs.Ytolmdoigcaaieaa
open Go.RowKit

/-- one side's rows, with what the year i has -/
structure Side (i : Nat) (n : Nat) (g : Nat → Bk) (a : Int) (n' : Nat) (g' : Nat → Bk) : Prop where
  row : BRow n' g'
  val : bget g' n' = upS (bget g n) 1 i a
  lim : ∀ j, j < n' → (g' j).c = 1 ∧ (g' j).y < (i : Int) + 1 ∧ -1000 ≤ (g' j).a ∧ (g' j).a ≤ 1000
  le : n' ≤ i + 1
/-- the rows of the years ahead of i, and their ways -/
structure BackAt (i n1 n2 q : Nat) (gx gy : Nat → Bk) (f : Nat → Wy) : Prop where
  rx : BRow n1 gx
  ry : BRow n2 gy
  fi : FIs (bget gx n1) (bget gy n2) q f
  lx : ∀ j, j < n1 → (gx j).c = 1 ∧ (gx j).y < (i : Int) ∧ -1000 ≤ (gx j).a ∧ (gx j).a ≤ 1000
  ly : ∀ j, j < n2 → (gy j).c = 1 ∧ (gy j).y < (i : Int) ∧ -1000 ≤ (gy j).a ∧ (gy j).a ≤ 1000
  lf : ∀ j, j < q → (f j).c = 1 ∧ (f j).y < (i : Int)
  le : n1 ≤ i ∧ n2 ≤ i ∧ q ≤ i
section
variable {i n n1 n2 q : Nat} {g gx gy gx' gy' : Nat → Bk} {f : Nat → Wy} {S T : Int → Int → Int} {a b : Int} {n1' n2' : Nat}
theorem back_none (h : ∀ j, j < n → (g j).c = 1 ∧ (g j).y < (i : Int) ∧ -1000 ≤ (g j).a ∧ (g j).a ≤ 1000) : bget g n 1 i = 0 := bget_none fun j hj e => by have := h j hj; omega
theorem Side.skip (r : BRow n g) (h : ∀ j, j < n → (g j).c = 1 ∧ (g j).y < (i : Int) ∧ -1000 ≤ (g j).a ∧ (g j).a ≤ 1000) (hn : n ≤ i) : Side i n g 0 n g :=
  ⟨r, by have := upS_same (bget g n) 1 i; rw [back_none h] at this; exact this.symm, fun j hj => by have := h j hj; omega, by omega⟩
theorem Side.push (r : BRow n g) (h : ∀ j, j < n → (g j).c = 1 ∧ (g j).y < (i : Int) ∧ -1000 ≤ (g j).a ∧ (g j).a ≤ 1000) (hn : n ≤ i) (hi : i < 6) (ha : a ≠ 0) (hb : -1000 ≤ a ∧ a ≤ 1000) : Side i n g a (n + 1) (pushB g n ⟨1, i, a⟩) := by
  refine ⟨r.push (by show BOk 1 i; unfold BOk; omega) ha fun j hj => by have := h j hj; unfold Bl; right; exact ⟨this.1, this.2.1⟩, ?_, fun j hj => ?_, by omega⟩
  · funext c y
    rw [bget_push]
    unfold upS bval
    by_cases e : c = 1 ∧ y = i
    · obtain ⟨rfl, rfl⟩ := e
      rw [if_pos ⟨rfl, rfl⟩, if_pos ⟨rfl, rfl⟩, back_none h]; dsimp only; omega
    · rw [if_neg e, if_neg fun z => e ⟨z.1.symm, z.2.symm⟩]; omega
  · by_cases e : j = n
    · rw [e, pushB_at]; exact ⟨rfl, by show (i : Int) < i + 1; omega, hb.1, hb.2⟩
    · rw [pushB_ne g _ e]; have := h j (by omega); omega
theorem FIs.push1 (h : FIs S T q f) (hS : S 1 i = 0) (hT : T 1 i = 0) (hi : i < 6) (lf : ∀ j, j < q → (f j).c = 1 ∧ (f j).y < (i : Int)) (hab : a ≠ 0 ∨ b ≠ 0) : FIs (upS S 1 i a) (upS T 1 i b) (q + 1) (updW f q ⟨1, i, a, b - a, b⟩) := by
  have ef : (fun j => (⟨(updW f q ⟨1, i, a, b - a, b⟩ j).c, (updW f q ⟨1, i, a, b - a, b⟩ j).y, 1⟩ : Bk)) = pushB (fun j => ⟨(f j).c, (f j).y, 1⟩) q ⟨1, i, 1⟩ := by
    funext j
    by_cases e : j = q
    · rw [e, updW_at, pushB_at]
    · rw [updW_ne f _ e, pushB_ne _ _ e]
  have key : ∀ (P : Wy → Prop), P ⟨1, i, a, b - a, b⟩ → (∀ j, j < q → P (f j)) → ∀ j, j < q + 1 → P (updW f q ⟨1, i, a, b - a, b⟩ j) := fun P h1 h2 j hj => by
    by_cases e : j = q
    · rw [e, updW_at]; exact h1
    · rw [updW_ne f _ e]; exact h2 j (by omega)
  have ne : ∀ j, j < q → ¬ ((f j).c = 1 ∧ (f j).y = (i : Int)) := fun j hj e => by have := lf j hj; omega
  refine ⟨?_, key (fun x => x.o = upS S 1 i a x.c x.y) (upS_at _ _ _ _).symm fun j hj => ?_, key (fun x => x.k = upS T 1 i b x.c x.y) (upS_at _ _ _ _).symm fun j hj => ?_, key (fun x => x.m = x.k - x.o) rfl h.mv⟩
  · rw [ef]
    refine ⟨h.pl.1.push (by show BOk 1 i; unfold BOk; omega) (by show (1 : Int) ≠ 0; decide) fun j hj => ?_, fun c y => ?_⟩
    · have := lf j hj
      show Bl (f j).c (f j).y 1 i
      unfold Bl; right; exact this
    · rw [bget_push, h.pl.2]
      unfold both upS bval
      by_cases e : c = 1 ∧ y = i
      · obtain ⟨rfl, rfl⟩ := e
        have z : ¬ (a = 0 ∧ b = 0) := by omega
        simp [hS, hT, z]
      · have e' : ¬ ((1 : Int) = c ∧ (i : Int) = y) := fun z => e ⟨z.1.symm, z.2.symm⟩
        rw [if_neg e', if_neg e, if_neg e]; omega
  · show (f j).o = upS S 1 i a (f j).c (f j).y
    unfold upS
    rw [if_neg (ne j hj)]; exact h.op j hj
  · show (f j).k = upS T 1 i b (f j).c (f j).y
    unfold upS
    rw [if_neg (ne j hj)]; exact h.cl j hj
theorem BackAt.zero (gx gy : Nat → Bk) : BackAt 0 0 0 0 gx gy (fun _ => ⟨0, 0, 0, 0, 0⟩) :=
  ⟨(bis_zero gx).1, (bis_zero gy).1, fis_nothing, fun j hj => by omega, fun j hj => by omega, fun j hj => by omega, by omega⟩
theorem BackAt.skip (h : BackAt i n1 n2 q gx gy f) (sx : Side i n1 gx 0 n1' gx') (sy : Side i n2 gy 0 n2' gy') : BackAt (i + 1) n1' n2' q gx' gy' f := by
  refine ⟨sx.row, sy.row, ?_, sx.lim, sy.lim, fun j hj => by have := h.lf j hj; omega, by have := h.le; have := sx.le; have := sy.le; omega⟩
  have e1 := upS_same (bget gx n1) 1 i
  have e2 := upS_same (bget gy n2) 1 i
  rw [back_none h.lx] at e1
  rw [back_none h.ly] at e2
  rw [sx.val, sy.val, e1, e2]
  exact h.fi
theorem BackAt.push (h : BackAt i n1 n2 q gx gy f) (hi : i < 6) (sx : Side i n1 gx a n1' gx') (sy : Side i n2 gy b n2' gy') (hab : a ≠ 0 ∨ b ≠ 0) : BackAt (i + 1) n1' n2' (q + 1) gx' gy' (updW f q ⟨1, i, a, b - a, b⟩) := by
  refine ⟨sx.row, sy.row, ?_, sx.lim, sy.lim, fun j hj => ?_, by have := h.le; have := sx.le; have := sy.le; omega⟩
  · rw [sx.val, sy.val]
    exact h.fi.push1 (back_none h.lx) (back_none h.ly) hi h.lf hab
  · by_cases e : j = q
    · rw [e, updW_at]; exact ⟨rfl, by show (i : Int) < ((i + 1 : Nat) : Int); omega⟩
    · rw [updW_ne f _ e]; have := h.lf j (by omega); omega
theorem back_bd (r : BRow n g) (h : ∀ j, j < n → -1000 ≤ (g j).a ∧ (g j).a ≤ 1000) (c y : Int) : -1000 ≤ bget g n c y ∧ bget g n c y ≤ 1000 := by
  by_cases z : bget g n c y = 0
  · omega
  · obtain ⟨j, hj, e1, e2⟩ := bget_some z
    have e := bget_at r hj
    rw [e1, e2] at e
    rw [e]; exact h j hj
theorem rof_small {a z : Int} (ha : -1000 ≤ a ∧ a ≤ 1000) (hz : RtOk z) : -1000 ≤ rof a z ∧ rof a z ≤ 1000 := by
  unfold RtOk at hz
  obtain ⟨h1, h2⟩ := mul_bd (n := a) (r := z) (A := 1000) ha.1 ha.2 hz.1 hz.2
  have := mul_sign (n := a) hz.1
  unfold rof; split <;> omega
/-- both ways have an answer, the one the other's with the other sign -/
theorem BackAt.both (h : BackAt i n1 n2 q gx gy f) (hi : i ≤ 6) {old now : Int} (ho : RtOk old) (hn : RtOk now) :
    ∃ m r m' r', RmIs q f q (fun _ => old) q (fun _ => now) m r 0 ∧ RmIs q (fun j => ⟨(f j).c, (f j).y, (f j).k, -(f j).m, (f j).o⟩) q (fun _ => now) q (fun _ => old) m' r' 0 ∧ m + r = -(m' + r') := by
  have lo : ∀ j, j < q → -1000 ≤ (f j).o ∧ (f j).o ≤ 1000 := fun j hj => by rw [h.fi.op j hj]; exact back_bd h.rx (fun j hj => (h.lx j hj).2.2) _ _
  have lk : ∀ j, j < q → -1000 ≤ (f j).k ∧ (f j).k ≤ 1000 := fun j hj => by rw [h.fi.cl j hj]; exact back_bd h.ry (fun j hj => (h.ly j hj).2.2) _ _
  have hq := h.le.2.2
  have mon : ∀ {x : Int}, -1000 ≤ x ∧ x ≤ 1000 → Mon x := fun hx => by unfold Mon; omega
  have wide : ∀ u : Nat → Int, (∀ j, j < q → -2000 ≤ u j ∧ u j ≤ 2000) → Mon (tot u q) := fun u hu => by
    have := tot_wide u 2000 q hu
    unfold Mon
    have : (q : Int) ≤ 6 := by omega
    omega
  have m1 := wide (mvU f fun _ => now) fun j hj => by
    have := rof_small (lo j hj) hn; have := rof_small (lk j hj) hn
    unfold mvU; dsimp only; omega
  have r1 := wide (rtU f (fun _ => old) fun _ => now) fun j hj => by
    have := rof_small (lo j hj) hn; have := rof_small (lo j hj) ho
    unfold rtU; dsimp only; omega
  have m2 := wide (mvU (fun j => ⟨(f j).c, (f j).y, (f j).k, -(f j).m, (f j).o⟩) fun _ => old) fun j hj => by
    have := rof_small (lo j hj) ho; have := rof_small (lk j hj) ho
    unfold mvU; dsimp only; omega
  have r2 := wide (rtU (fun j => ⟨(f j).c, (f j).y, (f j).k, -(f j).m, (f j).o⟩) (fun _ => now) fun _ => old) fun j hj => by
    have := rof_small (lk j hj) hn; have := rof_small (lk j hj) ho
    unfold rtU; dsimp only; omega
  refine ⟨_, _, _, _, .inr (.inr ⟨⟨rfl, rfl, fun j hj => ⟨⟨ho, hn⟩, mon (lo j hj), mon (lk j hj)⟩⟩, ⟨m1, r1⟩, rfl, rfl, rfl⟩), .inr (.inr ⟨⟨rfl, rfl, fun j hj => ⟨⟨hn, ho⟩, mon (lk j hj), mon (lo j hj)⟩⟩, ⟨m2, r2⟩, rfl, rfl, rfl⟩), ?_⟩
  have key : ∀ k, tot (mvU f fun _ => now) k + tot (rtU f (fun _ => old) fun _ => now) k = -(tot (mvU (fun j => ⟨(f j).c, (f j).y, (f j).k, -(f j).m, (f j).o⟩) fun _ => old) k + tot (rtU (fun j => ⟨(f j).c, (f j).y, (f j).k, -(f j).m, (f j).o⟩) (fun _ => now) fun _ => old) k) := by
    intro k
    induction k with
    | zero => rfl
    | succ k ih =>
      rw [tot, tot, tot, tot]
      unfold mvU rtU at ih ⊢
      dsimp only at ih ⊢
      omega
  exact key q
end
theorem ap_push {w : World} {E : TypeId} {base n' size : Nat} {v v' : Value} {ys : List Value} (h : Apart v v') (o' : w.ownsRow base E size v' n' ys) {b n c H : Nat} (hb : v.ownBlock = some b ∨ b = H) (hH : w.heap.size ≤ H) : Apart (.slice (some ⟨b, 0, none⟩) n c) v' := by
  intro k hk
  have : b = k := by simpa [Value.ownBlock] using hk
  subst this
  rcases hb with hb | rfl
  · exact h _ hb
  · intro e; have := (World.ownsRow.lt o' _ e).2; omega
theorem kp_apart {v v' : Value} (h : Apart v v') : v.ownBlock = none ∨ v.ownBlock ≠ v'.ownBlock := by
  cases e : v.ownBlock with
  | none => exact .inl rfl
  | some k => exact .inr fun q => h k e q.symm
set_option maxHeartbeats 16000000 in
set_option maxRecDepth 100000 in
theorem remeasureBack_walk (a0 : Option Addr) (len0 cap0 : Nat) (z0 : List Int) (a1 : Option Addr) (len1 cap1 : Nat) (z1 : List Int) (a2 a3 : Int) (w : World) (w0 : IsRow .i64 w a0 len0 cap0 z0) (w1 : IsRow .i64 w a1 len1 cap1 z1) (_k1 : (Lit.int .i64 a2).wf = true) (_k2 : (Lit.int .i64 a3).wf = true) :
    Calls Try.prog 3 #[.slice a0 len0 cap0, .slice a1 len1 cap1, .int .i64 a2, .int .i64 a3] w fun e w' => e = .returned (.bool true) ∧ Below w.heap.size w w' := by
  obtain ⟨i0, hi, hz0, hz1, hz2⟩ := info_parts bk_info
  have W := Lib.hid fun w => wakes17_any w
  obtain ⟨old, hold⟩ : ∃ x, a2 % 1000001 = x := ⟨_, rfl⟩
  obtain ⟨now, hnow⟩ : ∃ x, a3 % 1000001 = x := ⟨_, rfl⟩
  have E1 := Lib.hid hold
  have E2 := Lib.hid hnow
  have RB := Lib.hid (show RtOk old ∧ RtOk now from ⟨by unfold RtOk; omega, by unfold RtOk; omega⟩)
  obtain ⟨f0, hf0⟩ : ∃ f : Nat → Int, (fun j => z0.getD j 0) = f := ⟨_, rfl⟩
  obtain ⟨f1, hf1⟩ : ∃ f : Nat → Int, (fun j => z1.getD j 0) = f := ⟨_, rfl⟩
  have RO := Lib.hid w0.at.1
  have RN := Lib.hid w1.at.1
  rw [hf0] at RO
  rw [hf1] at RN
  clear w0 w1 hf0 hf1 hold hnow _k1 _k2
  go_enter Try.func3, Try.ntmps3
  go_wp2_with (first | (go_at_call 8; (with_reducible refine (within_at _ _ _ _ (by omega) (by omega) E1).mono ?_); rintro e w' ⟨rfl, rfl⟩) | (go_at_call 8; (with_reducible refine (within_at _ _ _ _ (by omega) (by omega) E2).mono ?_); rintro e w' ⟨rfl, rfl⟩))
  go_loopg [9, 10, 11, 12, 13, 14] 6 (fun gh s9 s10 s11 s12 _ _ wr => ∃ (i n1 n2 q : Nat) (gx gy : Nat → Bk) (f : Nat → Wy), i ≤ 6 ∧ gh = 6 - i ∧ s12 = .int .i64 i ∧ s11 = .int .i64 q ∧ OwnR be 3 wr 26 w.heap.size s9 n1 gx ∧ OwnR be 3 wr 26 w.heap.size s10 n2 gy ∧ Apart s9 s10 ∧ BackAt i n1 n2 q gx gy f ∧ Below w.heap.size w wr)
  case atStart => exact ⟨0, 0, 0, 0, fun _ => ⟨0, 0, 0⟩, fun _ => ⟨0, 0, 0⟩, _, by omega, rfl, rfl, rfl, OwnR.nil _ _ _ _ _ _, OwnR.nil _ _ _ _ _ _, Apart.nil _, BackAt.zero _ _, Below.refl _ _⟩
  case round =>
    obtain ⟨i, n1, n2, q, gx, gy, f, hi6', hgk, rfl, rfl, hox, hoy, hap, hba, hlo⟩ := hrel
    have HGK := Lib.hid hgk
    have OX := Lib.hid hox
    have OY := Lib.hid hoy
    have AP := Lib.hid hap
    have BA := Lib.hid hba
    have LO1 := Lib.hid hlo
    have hle := hba.le
    clear hgk hox hoy hap hba hlo
    by_cases hlt : i < len0 ∧ i < 6
    · obtain ⟨h0, hi6⟩ := hlt
      obtain ⟨b', off, rfl, hb, hc⟩ := (RO.out.below LO1.out).some (by omega)
      have c0 := hc i h0
      have k0 : (0 : Int) ≤ (i : Int) := by omega
      have k1 : (i : Int) < (len0 : Int) := by omega
      have k6 : decide (i < 6) = true := by simpa using hi6
      have k6' : (i : Int) < 6 := by omega
      obtain ⟨x, hx⟩ : ∃ x, f0 i % 2001 = x := ⟨_, rfl⟩
      have HX := Lib.hid hx
      have xb : 0 ≤ x ∧ x ≤ 2000 := by omega
      obtain ⟨a, ha⟩ : ∃ a, x - 1000 = a := ⟨_, rfl⟩
      have ab : -1000 ≤ a ∧ a ≤ 1000 := by omega
      have HAA := Lib.hid ha
      clear hc hx
      go_upto_if 45 with (go_at_call 8; (with_reducible refine (within_at _ _ _ _ (by omega) (by omega) HX).mono ?_); rintro e w' ⟨rfl, rfl⟩)
      clear ha xb HAA
      go_cut [14] (fun s14 wx => ∃ b : Int, s14 = .int .i64 b ∧ (-1000 ≤ b ∧ b ≤ 1000) ∧ wr = wx)
      case first =>
        by_cases h2 : i < len1
        · obtain ⟨b2, off2, rfl, hb2, hc2⟩ := (RN.out.below LO1.out).some (by omega)
          have d0 := hc2 i h2
          have kl : (i : Int) < (len1 : Int) := by omega
          obtain ⟨y, hy⟩ : ∃ y, f1 i % 2001 = y := ⟨_, rfl⟩
          have HY := Lib.hid hy
          have yb : 0 ≤ y ∧ y ≤ 2000 := by omega
          clear hc2 hy
          go_wp2_with (first | (go_at_call 8; (with_reducible refine (within_at _ _ _ _ (by omega) (by omega) HY).mono ?_); rintro e w' ⟨rfl, rfl⟩))
          go_meet
          exact ⟨y - 1000, rfl, by omega, rfl⟩
        · have kl : ¬ (i : Int) < (len1 : Int) := by omega
          go_wp2
          go_meet
          exact ⟨0, rfl, by omega, rfl⟩
      case rest =>
      obtain ⟨b, rfl, hbb, rfl⟩ := hcut
      have HAB := Lib.hid (And.intro ab hbb)
      clear c0 hb hbb ab k6 k6' k1 k0
      by_cases hA : a = 0
      · by_cases hB : b = 0
        · subst hA hB
          have hA : (0 : Int) = 0 := rfl
          have hB : (0 : Int) = 0 := rfl
          go_wp2
          go_roundg (6 - (i + 1))
          case measure => have := HGK.out; omega
          case rel => exact ⟨i + 1, n1, n2, q, _, _, _, by omega, rfl, by go_num, rfl, OX.out, OY.out, AP.out, BA.out.skip (Side.skip BA.out.rx BA.out.lx BA.out.le.1) (Side.skip BA.out.ry BA.out.ly BA.out.le.2.1), LO1.out⟩
        · subst hA
          have hA : (0 : Int) = 0 := rfl
          have eA : ((0 : Int) != 0) = false := by decide
          have eB : (b != 0) = true := by simpa using hB
          have HA := Lib.hid hA
          have HB := Lib.hid hB
          clear hA hB
          go_wp2_with (first | (at_builtin; (refine wpList_push_r rfl (.tmp 62) (.tmp 66) rfl bk_type hi hz0 hz1 hz2 (by decide) rfl (by decide) be_len be_one w w.heap.size n2 wr.heap.size _ gy ⟨1, (i : Int), b⟩ rfl rfl (rec_lit wr (be ⟨1, (i : Int), b⟩) 26 _ rfl) (OY.out.alloc _) (by omega) (LO1.out.alloc LO1.out.size _) (by have := LO1.out.size; simp; omega) _ rfl ?_; intro b2 c2 w2 ho2 hb2 hg2 hat2; have OW2 := Lib.hid ho2; have LO2 := Lib.hid hb2; have OT2 := Lib.hid (OwnR.kept (OX.out.alloc (.cells #[.int .i64 1, .int .i64 i, .int .i64 b] 26)) hg2 (kp_apart AP.out.symm.symm)); have AP2 := Lib.hid (ap_push (n := n2 + 1) (c := c2) AP.out.symm (OX.out.alloc (.cells #[.int .i64 1, .int .i64 i, .int .i64 b] 26)) hat2 (Nat.le_refl _)); clear ho2 hb2 hg2 hat2)))
          go_roundg (6 - (i + 1))
          case measure => have := HGK.out; omega
          case rel => exact ⟨i + 1, n1, n2 + 1, q + 1, _, _, _, by omega, rfl, by go_num, by go_num, OT2.out, OW2.out, AP2.out.symm, BA.out.push hi6 (Side.skip BA.out.rx BA.out.lx BA.out.le.1) (Side.push BA.out.ry BA.out.ly BA.out.le.2.1 hi6 HB.out HAB.out.2) (.inr HB.out), LO2.out⟩
      · by_cases hB : b = 0
        · subst hB
          have hB : (0 : Int) = 0 := rfl
          have eA : (a != 0) = true := by simpa using hA
          have eB : ((0 : Int) != 0) = false := by decide
          have HA := Lib.hid hA
          have HB := Lib.hid hB
          clear hA hB
          go_wp2_with (first | (at_builtin; (refine wpList_push_r rfl (.tmp 54) (.tmp 58) rfl bk_type hi hz0 hz1 hz2 (by decide) rfl (by decide) be_len be_one w w.heap.size n1 wr.heap.size _ gx ⟨1, (i : Int), a⟩ rfl rfl (rec_lit wr (be ⟨1, (i : Int), a⟩) 26 _ rfl) (OX.out.alloc _) (by omega) (LO1.out.alloc LO1.out.size _) (by have := LO1.out.size; simp; omega) _ rfl ?_; intro b2 c2 w2 ho2 hb2 hg2 hat2; have OW2 := Lib.hid ho2; have LO2 := Lib.hid hb2; have OT2 := Lib.hid (OwnR.kept (OY.out.alloc (.cells #[.int .i64 1, .int .i64 i, .int .i64 a] 26)) hg2 (kp_apart AP.out.symm)); have AP2 := Lib.hid (ap_push (n := n1 + 1) (c := c2) AP.out (OY.out.alloc (.cells #[.int .i64 1, .int .i64 i, .int .i64 a] 26)) hat2 (Nat.le_refl _)); clear ho2 hb2 hg2 hat2)))
          go_roundg (6 - (i + 1))
          case measure => have := HGK.out; omega
          case rel => exact ⟨i + 1, n1 + 1, n2, q + 1, _, _, _, by omega, rfl, by go_num, by go_num, OW2.out, OT2.out, AP2.out, BA.out.push hi6 (Side.push BA.out.rx BA.out.lx BA.out.le.1 hi6 HA.out HAB.out.1) (Side.skip BA.out.ry BA.out.ly BA.out.le.2.1) (.inl HA.out), LO2.out⟩
        · have eA : (a != 0) = true := by simpa using hA
          have eB : (b != 0) = true := by simpa using hB
          have HA := Lib.hid hA
          have HB := Lib.hid hB
          clear hA hB
          go_wp2_with (first | (at_builtin; (refine wpList_push_r rfl (.tmp 54) (.tmp 58) rfl bk_type hi hz0 hz1 hz2 (by decide) rfl (by decide) be_len be_one w w.heap.size n1 wr.heap.size _ gx ⟨1, (i : Int), a⟩ rfl rfl (rec_lit wr (be ⟨1, (i : Int), a⟩) 26 _ rfl) (OX.out.alloc _) (by omega) (LO1.out.alloc LO1.out.size _) (by have := LO1.out.size; simp; omega) _ rfl ?_; intro b2 c2 w2 ho2 hb2 hg2 hat2; have OW2 := Lib.hid ho2; have LO2 := Lib.hid hb2; have OT2 := Lib.hid (OwnR.kept (OY.out.alloc (.cells #[.int .i64 1, .int .i64 i, .int .i64 a] 26)) hg2 (kp_apart AP.out.symm)); have AP2 := Lib.hid (ap_push (n := n1 + 1) (c := c2) AP.out (OY.out.alloc (.cells #[.int .i64 1, .int .i64 i, .int .i64 a] 26)) hat2 (Nat.le_refl _)); clear ho2 hb2 hg2 hat2)) | (at_builtin; (refine wpList_push_r rfl (.tmp 62) (.tmp 66) rfl bk_type hi hz0 hz1 hz2 (by decide) rfl (by decide) be_len be_one w w.heap.size n2 w2.heap.size _ gy ⟨1, (i : Int), b⟩ rfl rfl (rec_lit w2 (be ⟨1, (i : Int), b⟩) 26 _ rfl) (OT2.out.alloc _) (by omega) (LO2.out.alloc LO2.out.size _) (by have := LO2.out.size; simp; omega) _ rfl ?_; intro b3 c3 w3 ho3 hb3 hg3 hat3; have OW3 := Lib.hid ho3; have LO3 := Lib.hid hb3; have OT3 := Lib.hid (OwnR.kept (OW2.out.alloc (.cells #[.int .i64 1, .int .i64 i, .int .i64 b] 26)) hg3 (kp_apart AP2.out.symm.symm)); have AP3 := Lib.hid (ap_push (n := n2 + 1) (c := c3) AP2.out.symm (OW2.out.alloc (.cells #[.int .i64 1, .int .i64 i, .int .i64 b] 26)) hat3 (Nat.le_refl _)); clear ho3 hb3 hg3 hat3)))
          go_roundg (6 - (i + 1))
          case measure => have := HGK.out; omega
          case rel => exact ⟨i + 1, n1 + 1, n2 + 1, q + 1, _, _, _, by omega, rfl, by go_num, by go_num, OT3.out, OW3.out, AP3.out.symm, BA.out.push hi6 (Side.push BA.out.rx BA.out.lx BA.out.le.1 hi6 HA.out HAB.out.1) (Side.push BA.out.ry BA.out.ly BA.out.le.2.1 hi6 HB.out HAB.out.2) (.inl HA.out), LO3.out⟩
    · obtain ⟨wo, rfl⟩ : ∃ wo, wo = wr := ⟨_, rfl⟩
      obtain ⟨ii0, ii, iz0, iz1, iz2⟩ := info_parts int_info
      obtain ⟨m, r, m', r', hr1, hr2, hrs⟩ := BA.out.both hi6' RB.out.1 RB.out.2
      have HR1 := Lib.hid hr1
      have HR2 := Lib.hid hr2
      have HRS := Lib.hid hrs
      clear hr1 hr2 hrs
      rcases (show ¬ (i : Int) < (len0 : Int) ∨ ((i : Int) < (len0 : Int) ∧ decide (i < 6) = false ∧ ¬ (i : Int) < 6) by
        by_cases h0 : i < len0
        · exact .inr ⟨by omega, by simp; omega, by omega⟩
        · exact .inl (by omega)) with k1 | ⟨k1, k6, k6'⟩
      all_goals
        clear hlt
        go_wp2
        go_loopg [15, 16, 17] q (fun gh s15 s16 s17 wx => ∃ (k : Nat) (g1 g2 g3 g4 : Nat → Int), k ≤ q ∧ gh = q - k ∧ s17 = .int .i64 k ∧ Quad wx wo.heap.size s15 s16 (.slice none 0 0) (.slice none 0 0) k k 0 0 g1 g2 g3 g4 ∧ (∀ j, j < k → g1 j = old ∧ g2 j = now) ∧ Below wo.heap.size wo wx)
        case atStart => exact ⟨0, fun _ => 0, fun _ => 0, fun _ => 0, fun _ => 0, by omega, rfl, rfl, Quad.nil _ _ _ _ _ _, fun j hj => by omega, Below.refl _ _⟩
        case round =>
          obtain ⟨k, g1, g2, g3, g4, hk, hgk, rfl, hq, hgs, hlo⟩ := hrel
          have HGK2 := Lib.hid hgk
          have Q0 := Lib.hid hq
          have HGS := Lib.hid hgs
          have LW0 := Lib.hid hlo
          clear hgk hq hgs hlo
          by_cases hlt : k < q
          · have kq : (k : Int) < (q : Int) := by omega
            go_wp2_with (first | (at_builtin; (refine wpList_push_int rfl (.tmp 81) (.tmp 83) rfl Try.underlying22 ii iz0 iz1 iz2 wo wo.heap.size k wr.heap.size _ g1 old rfl rfl (by simp) (Q0.out.o1.alloc _) (by omega) (LW0.out.alloc LW0.out.size _) (by have := LW0.out.size; simp; omega) _ rfl ?_; intro b1 c1 w1 ho1 hb1 hg1 hat1; have Q1 := Lib.hid (((Q0.out.below ((Below.refl wr.heap.size wr).alloc (Nat.le_refl _) (.cells #[.int .i64 old] 3))).push ho1 hg1 hat1 (Nat.le_refl _)).rot); have LW1 := Lib.hid hb1; clear ho1 hb1 hg1 hat1)) | (at_builtin; (refine wpList_push_int rfl (.tmp 85) (.tmp 87) rfl Try.underlying22 ii iz0 iz1 iz2 wo wo.heap.size k w1.heap.size _ g2 now rfl rfl (by simp) (Q1.out.o1.alloc _) (by omega) (LW1.out.alloc LW1.out.size _) (by have := LW1.out.size; simp; omega) _ rfl ?_; intro b2 c2 w2 ho2 hb2 hg2 hat2; have Q2 := Lib.hid (((Q1.out.below ((Below.refl w1.heap.size w1).alloc (Nat.le_refl _) (.cells #[.int .i64 now] 3))).push ho2 hg2 hat2 (Nat.le_refl _)).rot.rot.rot); have LW2 := Lib.hid hb2; clear ho2 hb2 hg2 hat2)))
            go_roundg (q - (k + 1))
            case measure => have := HGK2.out; omega
            case rel => exact ⟨k + 1, _, _, _, _, by omega, rfl, by go_num, Q2.out, fun j hj => by
              by_cases e : j = k
              · exact ⟨if_pos e, if_pos e⟩
              · have := HGS.out j (by omega)
                exact ⟨(if_neg e).trans this.1, (if_neg e).trans this.2⟩, LW2.out⟩
          · obtain rfl : k = q := by omega
            obtain ⟨A5, c5, rfl, hc5, hm5, _⟩ := Q0.out.o1.form
            obtain ⟨A6, c6, rfl, hc6, hm6, _⟩ := Q0.out.o2.form
            obtain ⟨Ax, cx, rfl, hcx, hmx, _⟩ := OX.out.form
            obtain ⟨Ay, cy, rfl, hcy, hmy, _⟩ := OY.out.form
            have AX := (own_at3 OX.out).below LW0.out
            have AY := (own_at3 OY.out).below LW0.out
            have A1 := (own_atI Q0.out.o1).ext (g' := fun _ => old) fun j hj => (HGS.out j hj).1
            have A2 := (own_atI Q0.out.o2).ext (g' := fun _ => now) fun j hj => (HGS.out j hj).2
            have bx : BIs (bget gx n1) n1 gx := ⟨BA.out.rx, fun _ _ => rfl⟩
            have by' : BIs (bget gy n2) n2 gy := ⟨BA.out.ry, fun _ _ => rfl⟩
            have mx : ∀ c y, Mon (bget gx n1 c y) := fun c y => by have := back_bd BA.out.rx (fun j hj => (BA.out.lx j hj).2.2) c y; unfold Mon; omega
            have my : ∀ c y, Mon (bget gy n2 c y) := fun c y => by have := back_bd BA.out.ry (fun j hj => (BA.out.ly j hj).2.2) c y; unfold Mon; omega
            have C1 := Lib.hid (prem_any (c := cx) (c' := cy) (cu := c5) (cv := c6) AX AY bx by' (by omega) (by omega) ⟨hcx, hmx⟩ ⟨hcy, hmy⟩ A1 A2 ⟨hc5, hm5⟩ ⟨hc6, hm6⟩ (BA.out.fi.fiw mx my) HR1.out)
            have C2 := Lib.hid fun v (z : Below wr.heap.size wr v) => prem_any (c := cy) (c' := cx) (cu := c6) (cv := c5) (AY.below z) (AX.below z) by' bx (by omega) (by omega) ⟨hcy, hmy⟩ ⟨hcx, hmx⟩ (A2.below z) (A1.below z) ⟨hc6, hm6⟩ ⟨hc5, hm5⟩ (BA.out.fi.back.fiw my mx) HR2.out
            have PT := Lib.hid fun v => ptot_any m r v HR1.out.low
            have PT' := Lib.hid fun v => ptot_any m' r' v HR2.out.low
            have bb := And.intro HR1.out.low HR2.out.low
            unfold Mon at bb
            obtain ⟨⟨b1, b2⟩, b3, b4⟩ := bb
            have en : IntKind.i64.wrap (-(m' + r')) = -(m' + r') := IntWalk.i64_in _ (by omega)
            have e5 : (m + r == -(m' + r')) = true := by simpa using HRS.out
            have LW := Lib.hid (LO1.out.trans (LW0.out.mono LO1.out.size))
            clear AX AY A1 A2 bx by' mx my hc5 hm5 hc6 hm6 hcx hmx hcy hmy OX OY Q0 HGS AP BA HR1 HR2 HRS RO RN RB hlt HGK HGK2 hk hi6'
            go_wp2_with fail
            refine (C1.out).mono ?_
            rintro e v5 ⟨rfl, hb5⟩
            have al5 := (Below.refl v5.heap.size v5).alloc (Nat.le_refl _) (.cells #[.int .i64 m, .int .i64 r] 28)
            have R5 := rec_lit v5 [.int .i64 m, .int .i64 r] 28 v5.heap.size rfl
            have D5 := Lib.hid (R5 0 _ rfl)
            have E5 := Lib.hid (R5 1 _ rfl)
            have K5 := Lib.hid (hb5.trans (al5.mono hb5.size))
            clear hb5 al5 R5 C1
            go_wp2_with fail
            refine (C2.out _ K5.out).mono ?_
            rintro e v6 ⟨rfl, hb6⟩
            have d6 := cell_keep D5.out hb6
            have e6 := cell_keep E5.out hb6
            have K6 := Lib.hid (LW.out.trans ((K5.out.trans (hb6.mono K5.out.size)).mono LW.out.size))
            obtain ⟨va, hva⟩ : ∃ va, v6.alloc (.cells #[.int .i64 m', .int .i64 r'] 28) = va := ⟨_, rfl⟩
            have L6 := (Below.refl v6.heap.size v6).alloc (Nat.le_refl _) (.cells #[.int .i64 m', .int .i64 r'] 28)
            have R6 := rec_lit v6 [.int .i64 m', .int .i64 r'] 28 v6.heap.size rfl
            rw [hva] at L6
            have d9 : va.cell? ⟨v6.heap.size, 0, none⟩ = some (.int .i64 m') := by rw [← hva]; exact R6 0 _ rfl
            have e9 : va.cell? ⟨v6.heap.size, 1, none⟩ = some (.int .i64 r') := by rw [← hva]; exact R6 1 _ rfl
            have f8 := cell_keep d6 L6
            have g8 := cell_keep e6 L6
            have KA := Lib.hid ((K6.out.trans (L6.mono K6.out.size)).drew)
            have VA := Lib.hid hva
            have F8 : Hid (va.drew.cell? ⟨v5.heap.size, 0, none⟩ = some (.int .i64 m)) := Lib.hid f8
            have G8 : Hid (va.drew.cell? ⟨v5.heap.size, 1, none⟩ = some (.int .i64 r)) := Lib.hid g8
            have D9 : Hid (va.drew.cell? ⟨v6.heap.size, 0, none⟩ = some (.int .i64 m')) := Lib.hid d9
            have E9 : Hid (va.drew.cell? ⟨v6.heap.size, 1, none⟩ = some (.int .i64 r')) := Lib.hid e9
            clear hb6 C2 D5 E5 K5 d6 e6 K6 L6 R6 hva LW
            go_wp2
            rw [VA.out]
            clear VA
            go_region_held3 (fun w' => w'.cell? ⟨v5.heap.size, 0, none⟩ = some (.int .i64 m) ∧ w'.cell? ⟨v5.heap.size, 1, none⟩ = some (.int .i64 r) ∧ w'.cell? ⟨v6.heap.size, 0, none⟩ = some (.int .i64 m') ∧ w'.cell? ⟨v6.heap.size, 1, none⟩ = some (.int .i64 r')) (first | go_keep) (first | (go_at_call 10; (with_reducible refine (PT.out _).mono ?_); rintro e x1 ⟨rfl, hbx1⟩; have HB1 := Lib.hid hbx1; have k1 := cell_keep F8.out hbx1; have k2 := cell_keep G8.out hbx1; have k3 := cell_keep D9.out hbx1; have k4 := cell_keep E9.out hbx1; clear hbx1) | (go_at_call 10; (with_reducible refine (PT'.out _).mono ?_); rintro e x2 ⟨rfl, hbx2⟩; have HB2 := Lib.hid hbx2; have l1 := cell_keep k1 hbx2; have l2 := cell_keep k2 hbx2; have l3 := cell_keep k3 hbx2; have l4 := cell_keep k4 hbx2; clear hbx2) | (go_at_call 11; (with_reducible refine (W.out _).mono ?_); rintro e x3 ⟨rfl, hbx3⟩; have HB3 := Lib.hid hbx3; have o1 := cell_keep l1 hbx3; have o2 := cell_keep l2 hbx3; have o3 := cell_keep l3 hbx3; have o4 := cell_keep l4 hbx3; clear hbx3))
            all_goals
              go_wp2
              go_ret
              have z1 := KA.out.trans (HB1.out.mono KA.out.size)
              have z2 := z1.trans (HB2.out.mono z1.size)
              exact ⟨rfl, z2.trans (HB3.out.mono z2.size)⟩
end Go.Proofs.Ytolmdoigcaaieaa
