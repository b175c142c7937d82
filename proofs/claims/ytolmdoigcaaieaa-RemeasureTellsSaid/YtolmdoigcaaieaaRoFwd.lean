/- From opening to closing, by the document: a contract for its Forward; registers as they are read; rows told alike; a bucket's movement. -/
import Derived.Test.YtolmdoigcaaieaaRoCls
import Derived.Test.YtolmdoigcaaieaaRBucket6
import Derived.WalkKit
import Derived.WalkSpells
import Derived.WalkLawsBesides
import Derived.Lib.Hide
import Derived.IntWalk
import Derived.Laws.StructEq
import Derived.Deep.LoopGhost
import Derived.Deep.QuietTactic
import Derived.BigQuiet
namespace Go.Proofs.Ytolmdoigcaaieaa
open Go.RowKit

/-- the five cells of a way -/
def we (x : Wy) : List Value := [.int .i64 x.c, .int .i64 x.y, .int .i64 x.o, .int .i64 x.m, .int .i64 x.k]
theorem we_len (x : Wy) : (we x).length = 5 := rfl
theorem we_one (x : Wy) : ∀ u ∈ we x, u.oneCell' = true := by
  intro u hu
  unfold we at hu
  simp only [List.mem_cons, List.not_mem_nil, or_false] at hu
  rcases hu with rfl | rfl | rfl | rfl | rfl <;> rfl
theorem AtR.five {w : World} {A : Option Addr} {n : Nat} {g : Nat → Wy} (r : AtR we 5 w A n g) {k : Nat} (hk : k < n) : ∃ b off, A = Option.some ⟨b, off, none⟩ ∧ b < w.heap.size ∧ w.cell? ⟨b, off + k * 5, none⟩ = Option.some (.int .i64 (g k).c) ∧ w.cell? ⟨b, off + k * 5 + 1, none⟩ = Option.some (.int .i64 (g k).y) ∧ w.cell? ⟨b, off + k * 5 + 2, none⟩ = Option.some (.int .i64 (g k).o) ∧ w.cell? ⟨b, off + k * 5 + 3, none⟩ = Option.some (.int .i64 (g k).m) ∧ w.cell? ⟨b, off + k * 5 + 4, none⟩ = Option.some (.int .i64 (g k).k) := by
  obtain ⟨b, off, e, hb, hc⟩ := r.some (by omega)
  exact ⟨b, off, e, hb, hc k hk 0 _ rfl, hc k hk 1 _ rfl, hc k hk 2 _ rfl, hc k hk 3 _ rfl, hc k hk 4 _ rfl⟩
/-- a register that is read -/
structure RX (w : World) (sb : Nat) (A : Option Addr) (n c : Nat) (S : Int → Int → Int) (g : Nat → Bk) : Prop where
  cell : w.cell? ⟨sb, 0, none⟩ = some (.slice A n c)
  row : AtR be 3 w A n g
  iv : BInv S n g
  cap : n ≤ c ∧ c ≤ maxLen
section
variable {w w1 : World} {sb n c : Nat} {A : Option Addr} {S : Int → Int → Int} {g : Nat → Bk}
theorem RX.below (h : RX w sb A n c S g) (k : Below w.heap.size w w1) : RX w1 sb A n c S g := ⟨cell_keep h.cell k, h.row.below k, h.iv, h.cap⟩
theorem preg_rx (A0 : Option Addr) (n0 c0 : Nat) (zs : List Int) (w : World) (h : IsRow .i64 w A0 n0 c0 zs) :
    Calls Try.prog 12 #[.slice A0 n0 c0] w fun e w' => ∃ sb A n c S g, e = .returned (ptr sb) ∧ RX w' sb A n c S g ∧ Below w.heap.size w w' := by
  refine (preg_some A0 n0 c0 zs w h).mono ?_
  rintro e w' ⟨sb, S, O', rfl, nb⟩
  obtain ⟨v, n, g, s, iv⟩ := nb.st
  obtain ⟨A, c, rfl, hc, hm, _, ha⟩ := s.at
  exact ⟨sb, A, n, c, S, g, rfl, ⟨s.hd.c0, ha, iv, hc, hm⟩, nb.low⟩
theorem rget_at (c0 : w.cell? ⟨sb, 0, none⟩ = some (.slice A n c)) (ha : AtR be 3 w A n g) (b : BIs S n g) (hn : n ≤ 1000) (cl y : Int) :
    Calls Try.prog 23 #[ptr sb, .int .i64 cl, .int .i64 y] w fun e w' => e = .returned (.int .i64 (S cl y)) ∧ Below w.heap.size w w' := by
  have HA := Lib.hid ha
  have HB := Lib.hid b
  obtain ⟨V, hV⟩ : ∃ V, S cl y = V := ⟨_, rfl⟩
  rw [hV]
  have HV := Lib.hid hV
  clear ha b hV
  go_enter Try.func23, Try.ntmps23
  go_wp2
  go_loopg [14] n (fun gh i wr => ∃ k : Nat, k ≤ n ∧ gh = n - k ∧ i = .int .i64 k ∧ (∀ j, j < k → ¬ ((g j).c = cl ∧ (g j).y = y)) ∧ Below w.heap.size w wr)
  case atStart => exact ⟨0, Nat.zero_le _, rfl, rfl, fun j hj => absurd hj (Nat.not_lt_zero _), Below.refl _ _⟩
  case round =>
    obtain ⟨k, hk, hgk, rfl, h0, hbw⟩ := hrel
    have HGK := Lib.hid hgk
    have HW := Lib.hid hbw
    have H0 := Lib.hid h0
    clear hgk hbw h0
    by_cases hlt : k < n
    · obtain ⟨b, off, rfl, hb, c0, c1, c2⟩ := (HA.out.below HW.out).three hlt
      by_cases hcc : (g k).c = cl ∧ (g k).y = y
      · have HE : Hid ((g k).a = V) := Lib.hid (by rw [← HV.out, ← HB.out.at hlt, hcc.1, hcc.2])
        have p1 : ((g k).c == cl) = true := by simpa using hcc.1
        have p2 : ((g k).y == y) = true := by simpa using hcc.2
        clear hcc
        go_wp2
        go_ret
        exact ⟨congrArg (fun x => Ending.returned (.int .i64 x)) HE.out, HW.out.alloc HW.out.size _⟩
      · have HN := Lib.hid hcc
        rcases (show ((g k).c == cl) = false ∨ (((g k).c == cl) = true ∧ ((g k).y == y) = false) from by
            by_cases q1 : (g k).c = cl
            · exact .inr ⟨by simpa using q1, by simpa using fun q2 => hcc ⟨q1, q2⟩⟩
            · exact .inl (by simpa using q1)) with p1 | ⟨p1, p2⟩
        all_goals
          clear hcc
          go_wp2
          go_roundg (n - (k + 1))
          case measure => have := HGK.out; omega
          case rel => exact ⟨k + 1, by omega, rfl, by go_num, fun j hj => by
              by_cases e : j = k
              · rw [e]; exact HN.out
              · exact H0.out j (by omega), HW.out.alloc HW.out.size _⟩
    · obtain rfl : k = n := by omega
      clear hlt
      have HE : Hid (0 = V) := Lib.hid (by rw [← HV.out, ← HB.out.2, bget_none H0.out])
      go_wp2
      go_ret
      exact ⟨congrArg (fun x => Ending.returned (.int .i64 x)) HE.out, HW.out⟩
theorem RX.get (h : RX w sb A n c S g) (cl y : Int) :
    Calls Try.prog 23 #[ptr sb, .int .i64 cl, .int .i64 y] w fun e w' => e = .returned (.int .i64 (S cl y)) ∧ Below w.heap.size w w' :=
  rget_at h.cell h.row h.iv.is (by have := h.iv.le; omega) cl y
end
/-- places so far -/
def upto (S S' : Int → Int → Int) (c y : Int) : Int → Int → Int := fun c' y' => if c' < c ∨ (c' = c ∧ y' < y) then both S S' c' y' else 0
structure FUp (S S' : Int → Int → Int) (c y : Int) (q : Nat) (f : Nat → Wy) : Prop where
  pl : BIs (upto S S' c y) q (fun j => ⟨(f j).c, (f j).y, 1⟩)
  op : ∀ j, j < q → (f j).o = S (f j).c (f j).y
  cl : ∀ j, j < q → (f j).k = S' (f j).c (f j).y
  mv : ∀ j, j < q → (f j).m = IntKind.i64.wrap ((f j).k - (f j).o)
/-- the way from S to S', however great the amounts are: what moved is what the machine makes of it -/
structure FIw (S S' : Int → Int → Int) (q : Nat) (f : Nat → Wy) : Prop where
  pl : BIs (both S S') q (fun j => ⟨(f j).c, (f j).y, 1⟩)
  op : ∀ j, j < q → (f j).o = S (f j).c (f j).y
  cl : ∀ j, j < q → (f j).k = S' (f j).c (f j).y
  mv : ∀ j, j < q → (f j).m = IntKind.i64.wrap ((f j).k - (f j).o)
theorem FIw.fis {S S' : Int → Int → Int} {q : Nat} {f : Nat → Wy} (h : FIw S S' q f) (hS : ∀ c y, Mon (S c y)) (hS' : ∀ c y, Mon (S' c y)) : FIs S S' q f :=
  ⟨h.pl, h.op, h.cl, fun j hj => by
    rw [h.mv j hj, h.op j hj, h.cl j hj]
    have h1 := hS (f j).c (f j).y
    have h2 := hS' (f j).c (f j).y
    unfold Mon at h1 h2
    exact IntWalk.i64_in _ (by omega)⟩
theorem FIw.uniq {S S' : Int → Int → Int} {q q' : Nat} {f f' : Nat → Wy} (h : FIw S S' q f) (h' : FIw S S' q' f') : q = q' ∧ ∀ j, j < q → f j = f' j := by
  obtain ⟨e, e'⟩ := h.pl.uniq h'.pl
  subst e
  refine ⟨rfl, fun j hj => ?_⟩
  have z := e' j hj
  injection z with z1 z2 _
  have a1 := h.op j hj; have a2 := h.cl j hj; have a3 := h.mv j hj
  have b1 := h'.op j hj; have b2 := h'.cl j hj; have b3 := h'.mv j hj
  rw [z1, z2] at a1 a2
  have c1 : (f j).o = (f' j).o := a1.trans b1.symm
  have c2 : (f j).k = (f' j).k := a2.trans b2.symm
  have c3 : (f j).m = (f' j).m := by rw [a3, b3, c1, c2]
  cases hf : f j; cases hf' : f' j
  simp only [hf, hf'] at z1 z2 c1 c2 c3
  subst z1 z2 c1 c2 c3; rfl
theorem FIw.le {S S' : Int → Int → Int} {q : Nat} {f : Nat → Wy} (h : FIw S S' q f) : q ≤ 900 := brow_many h.pl.1
section
variable {S S' : Int → Int → Int} {n n' q : Nat} {g g' : Nat → Bk} {f : Nat → Wy} {c y : Int}
theorem both_out (b : BIs S n g) (b' : BIs S' n' g') {c' y' : Int} (h : ¬ BOk c' y') : both S S' c' y' = 0 := if_pos ⟨b.out h, b'.out h⟩
theorem FUp.of (h : FUp S S' c y q f) {c' y' : Int} (e : upto S S' c y = upto S S' c' y') : FUp S S' c' y' q f := ⟨e ▸ h.pl, h.op, h.cl, h.mv⟩
theorem FUp.start (b : BIs S n g) (b' : BIs S' n' g') (f : Nat → Wy) : FUp S S' 1 0 0 f := by
  have e : upto S S' 1 0 = fun _ _ => 0 := by
    funext c' y'
    unfold upto
    split
    · exact both_out b b' (by unfold BOk; omega)
    · rfl
  exact ⟨by rw [e]; exact bis_zero _, fun j hj => by omega, fun j hj => by omega, fun j hj => by omega⟩
theorem FUp.skip (h : FUp S S' c y q f) (hz : S c y = 0 ∧ S' c y = 0) : FUp S S' c (y + 1) q f := h.of (by
  funext c' y'
  unfold upto
  by_cases e : c' = c ∧ y' = y
  · obtain ⟨rfl, rfl⟩ := e
    rw [if_neg (by omega), if_pos (by omega)]
    exact (if_pos hz).symm
  · by_cases e2 : c' < c ∨ (c' = c ∧ y' < y)
    · rw [if_pos e2, if_pos (by omega)]
    · rw [if_neg e2, if_neg (by omega)])
theorem FUp.class (h : FUp S S' c 100 q f) (b : BIs S n g) (b' : BIs S' n' g') : FUp S S' (c + 1) 0 q f := h.of (by
  funext c' y'
  unfold upto
  by_cases e : c' < c ∨ (c' = c ∧ y' < 100)
  · rw [if_pos e, if_pos (by omega)]
  · rw [if_neg e]
    split
    · exact (both_out b b' (by unfold BOk; omega)).symm
    · rfl)
theorem FUp.done (h : FUp S S' 10 0 q f) (b : BIs S n g) (b' : BIs S' n' g') : FIw S S' q f := by
  have e : upto S S' 10 0 = both S S' := by
    funext c' y'
    unfold upto
    split
    · rfl
    · exact (both_out b b' (by unfold BOk; omega)).symm
  exact ⟨e ▸ h.pl, h.op, h.cl, h.mv⟩
theorem FUp.push (h : FUp S S' c y q f) (hok : BOk c y) (hz : S c y ≠ 0 ∨ S' c y ≠ 0) : FUp S S' c (y + 1) (q + 1) (updW f q ⟨c, y, S c y, IntKind.i64.wrap (S' c y - S c y), S' c y⟩) := by
  have ef : (fun j => (⟨(updW f q ⟨c, y, S c y, IntKind.i64.wrap (S' c y - S c y), S' c y⟩ j).c, (updW f q ⟨c, y, S c y, IntKind.i64.wrap (S' c y - S c y), S' c y⟩ j).y, 1⟩ : Bk)) = pushB (fun j => ⟨(f j).c, (f j).y, 1⟩) q ⟨c, y, 1⟩ := by
    funext j
    by_cases e : j = q
    · rw [e, updW_at, pushB_at]
    · rw [updW_ne f _ e, pushB_ne _ _ e]
  have key : ∀ (P : Wy → Prop), P ⟨c, y, S c y, IntKind.i64.wrap (S' c y - S c y), S' c y⟩ → (∀ j, j < q → P (f j)) → ∀ j, j < q + 1 → P (updW f q ⟨c, y, S c y, IntKind.i64.wrap (S' c y - S c y), S' c y⟩ j) := fun P h1 h2 j hj => by
    by_cases e : j = q
    · rw [e, updW_at]; exact h1
    · rw [updW_ne f _ e]; exact h2 j (by omega)
  refine ⟨?_, key (fun x => x.o = S x.c x.y) rfl h.op, key (fun x => x.k = S' x.c x.y) rfl h.cl, key (fun x => x.m = IntKind.i64.wrap (x.k - x.o)) rfl h.mv⟩
  rw [ef]
  refine ⟨h.pl.1.push hok (by show (1 : Int) ≠ 0; decide) fun i hi => ?_, fun c' y' => ?_⟩
  · have e := h.pl.at hi
    have e1 : upto S S' c y (f i).c (f i).y ≠ 0 := by
      intro z
      rw [z] at e
      exact absurd (show (0 : Int) = 1 from e) (by decide)
    unfold upto at e1
    split at e1
    · rename_i z; exact z
    · exact absurd rfl e1
  · rw [bget_push, h.pl.2]
    unfold upto
    by_cases e : c' = c ∧ y' = y
    · obtain ⟨rfl, rfl⟩ := e
      have eb : bval ⟨c', y', 1⟩ c' y' = 1 := if_pos ⟨rfl, rfl⟩
      rw [if_neg (by omega), if_pos (by omega), eb]
      unfold both
      rw [if_neg (by omega)]; rfl
    · have eb : bval ⟨c, y, 1⟩ c' y' = 0 := if_neg fun z => e ⟨z.1.symm, z.2.symm⟩
      rw [eb, Int.add_zero]
      by_cases e2 : c' < c ∨ (c' = c ∧ y' < y)
      · rw [if_pos e2, if_pos (by omega)]
      · rw [if_neg e2, if_neg (by omega)]
end
theorem way_info : (Try.prog.info? 51).map (fun i => (i.zero, i.size, i.bytes)) = some (some (.agg #[.int .i64 0, .int .i64 0, .int .i64 0, .int .i64 0, .int .i64 0]), 5, 40) := by kernel_rfl
theorem way_type : Try.prog.underlying 42 = some (.slice 51) := Try.underlying42
set_option maxHeartbeats 8000000 in
set_option maxRecDepth 100000 in
theorem rfwd_w {w : World} {A A' : Option Addr} {n c n' c' : Nat} {g g' : Nat → Bk} {S S' : Int → Int → Int} (h : AtR be 3 w A n g) (h' : AtR be 3 w A' n' g') (iv : BIs S n g) (iv' : BIs S' n' g') (hn : n ≤ 1000) (hn' : n' ≤ 1000) :
    Calls Try.prog 13 #[.slice A n c, .slice A' n' c'] w fun e w' => ∃ v q f, e = .returned v ∧ OwnR we 5 w' 51 w.heap.size v q f ∧ FIw S S' q f ∧ Below w.heap.size w w' := by
  obtain ⟨i0, hi, hz0, hz1, hz2⟩ := info_parts way_info
  have HA := Lib.hid h
  have HA' := Lib.hid h'
  have IV := Lib.hid iv
  have IV' := Lib.hid iv'
  clear h h' iv iv'
  go_enter Try.func13, Try.ntmps13
  go_wp2
  obtain ⟨w1, hw1⟩ : ∃ w1, w1 = (w.alloc (.cells #[.slice A n c] 39)).alloc (.cells #[.slice A' n' c'] 39) := ⟨_, rfl⟩
  have B1 : Hid (Below w.heap.size w w1) := Lib.hid (by rw [hw1]; exact ((Below.refl _ _).alloc (Nat.le_refl _) _).alloc (by simp) _)
  have d0 : Hid (w1.cell? ⟨w.heap.size, 0, none⟩ = some (.slice A n c)) := Lib.hid (by
    rw [hw1]; exact cell_keep (rec_lit w [.slice A n c] 39 w.heap.size rfl 0 _ rfl) ((Below.refl _ _).alloc (Nat.le_refl _) _))
  have d1 : Hid (w1.cell? ⟨w.heap.size + 1, 0, none⟩ = some (.slice A' n' c')) := Lib.hid (by
    rw [hw1]; exact rec_lit (w.alloc (.cells #[.slice A n c] 39)) [.slice A' n' c'] 39 (w.heap.size + 1) (by simp) 0 _ rfl)
  have G1 := Lib.hid fun wz (k : Below w1.heap.size w1 wz) (cl y : Int) => rget_at (cell_keep d0.out k) ((HA.out.below B1.out).below k) IV.out (by omega) cl y
  have G2 := Lib.hid fun wz (k : Below w1.heap.size w1 wz) (cl y : Int) => rget_at (cell_keep d1.out k) ((HA'.out.below B1.out).below k) IV'.out (by omega) cl y
  rw [← hw1]
  clear hw1 d0 d1
  go_loopg [7, 8] 9 (fun gh s7 s8 wr => ∃ (k q : Nat) (f : Nat → Wy), 1 ≤ k ∧ k ≤ 10 ∧ gh = 10 - k ∧ s8 = .int .i64 k ∧ OwnR we 5 wr 51 w1.heap.size s7 q f ∧ FUp S S' k 0 q f ∧ Below w1.heap.size w1 wr)
  case atStart => exact ⟨1, 0, fun _ => ⟨0, 0, 0, 0, 0⟩, by omega, by omega, rfl, rfl, OwnR.nil _ _ _ _ _ _, FUp.start IV.out IV'.out _, Below.refl _ _⟩
  case round =>
    obtain ⟨k, q, f, hk1, hk2, hgk, rfl, ho, hu, hb⟩ := hrel
    have HGK := Lib.hid hgk
    have HO := Lib.hid ho
    have HU := Lib.hid hu
    have HB := Lib.hid hb
    clear hgk ho hu hb
    obtain ⟨wo, rfl⟩ : ∃ wo, wo = wr := ⟨_, rfl⟩
    by_cases hk : k ≤ 9
    · have hk9 : (k : Int) ≤ 9 := by omega
      go_wp2
      go_loopg [7, 9] 100 (fun gh s7 s9 wx => ∃ (y p : Nat) (f2 : Nat → Wy), y ≤ 100 ∧ gh = 100 - y ∧ s9 = .int .i64 y ∧ OwnR we 5 wx 51 w1.heap.size s7 p f2 ∧ FUp S S' k y p f2 ∧ Below w1.heap.size w1 wx)
      case atStart => exact ⟨0, q, f, by omega, rfl, rfl, HO.out, HU.out, HB.out⟩
      case round =>
        obtain ⟨y, p, f2, hy, hgy, rfl, ho2, hu2, hb2⟩ := hrel
        have HGY := Lib.hid hgy
        have HO2 := Lib.hid ho2
        have HU2 := Lib.hid hu2
        have HB2 := Lib.hid hb2
        have hp9 := brow_many hu2.pl.1
        clear hgy ho2 hu2 hb2
        by_cases hlt : y < 100
        · have hy9 : (y : Int) ≤ 99 := by omega
          have ok : BOk k y := by unfold BOk; omega
          obtain ⟨V, hV⟩ : ∃ V, S k y = V := ⟨_, rfl⟩
          obtain ⟨V', hV'⟩ : ∃ V, S' k y = V := ⟨_, rfl⟩
          have C1 := Lib.hid (G1.out wr HB2.out k y)
          rw [hV] at C1
          obtain ⟨D, ew⟩ : ∃ D, IntKind.i64.wrap (V' - V) = D := ⟨_, rfl⟩
          have EW := Lib.hid ew
          have HV := Lib.hid hV
          have HV' := Lib.hid hV'
          have OK := Lib.hid ok
          clear ok hV hV'
          go_wp2_with fail
          refine (C1.out).mono ?_
          rintro e w4 ⟨rfl, hb4⟩
          have K4 := Lib.hid (HB2.out.trans (hb4.mono HB2.out.size))
          have C2 := Lib.hid (G2.out w4 K4.out k y)
          rw [HV'.out] at C2
          have HO4 := Lib.hid (HO2.out.below hb4)
          clear hb4 C1
          go_wp2_with fail
          refine (C2.out).mono ?_
          rintro e w5 ⟨rfl, hb5⟩
          have K5 := Lib.hid (K4.out.trans (hb5.mono K4.out.size))
          have HO5 := Lib.hid (HO4.out.below hb5)
          clear hb5 C2
          by_cases hz : V = 0 ∧ V' = 0
          · obtain ⟨rfl, rfl⟩ := hz
            go_wp2
            go_roundg (100 - (y + 1))
            case measure => have := HGY.out; omega
            case rel => exact ⟨y + 1, p, f2, by omega, rfl, by go_num, HO5.out, by have := HU2.out.skip ⟨HV.out, HV'.out⟩; rwa [show ((y + 1 : Nat) : Int) = (y : Int) + 1 by omega], K5.out⟩
          · have fin : Hid (FUp S S' k ((y + 1 : Nat) : Int) (p + 1) (updW f2 p ⟨k, y, V, D, V'⟩)) := Lib.hid (by
              have := HU2.out.push OK.out (by rw [HV.out, HV'.out]; omega)
              rw [HV.out, HV'.out, EW.out] at this
              rwa [show ((y + 1 : Nat) : Int) = (y : Int) + 1 by omega])
            rcases (show (V != 0) = true ∨ ((V != 0) = false ∧ (V' != 0) = true) from by
              by_cases q1 : V = 0
              · exact .inr ⟨by simpa using q1, by simpa using fun q2 => hz ⟨q1, q2⟩⟩
              · exact .inl (by simpa using q1)) with p1 | ⟨p1, p2⟩
            all_goals
              clear hz
              go_wp2_with (at_builtin; (refine wpList_push_r rfl (.tmp 40) (.tmp 49) rfl way_type hi hz0 hz1 hz2 (by decide) rfl (by decide) we_len we_one w1 w1.heap.size p w5.heap.size _ f2 ⟨(k : Int), (y : Int), V, D, V'⟩ rfl rfl (rec_lit w5 (we ⟨(k : Int), (y : Int), V, D, V'⟩) 51 _ rfl) (HO5.out.alloc _) (by omega) (K5.out.alloc K5.out.size _) (by have := K5.out.size; simp; omega) _ rfl ?_; intro b6 c6 w6 ho6 hb6 hg6 hat6; have HO6 := Lib.hid ho6; have HB6 := Lib.hid hb6; clear ho6 hb6 hat6 hg6))
              go_roundg (100 - (y + 1))
              case measure => have := HGY.out; omega
              case rel => exact ⟨y + 1, p + 1, _, by omega, rfl, by go_num, HO6.out, fin.out, HB6.out⟩
        · obtain rfl : y = 100 := by omega
          clear hlt
          go_wp2
          go_roundg (10 - (k + 1))
          case measure => have := HGK.out; omega
          case rel => exact ⟨k + 1, p, f2, by omega, by omega, rfl, by go_num, HO2.out, by have := HU2.out.class IV.out IV'.out; rwa [show ((k + 1 : Nat) : Int) = (k : Int) + 1 by omega], HB2.out⟩
    · obtain rfl : k = 10 := by omega
      go_wp2
      go_ret
      exact ⟨_, q, f, rfl, HO.out.mono B1.out.size, HU.out.done IV.out IV'.out, B1.out.trans (HB.out.mono B1.out.size)⟩
theorem rfwd {w : World} {A A' : Option Addr} {n c n' c' : Nat} {g g' : Nat → Bk} {S S' : Int → Int → Int} (h : AtR be 3 w A n g) (h' : AtR be 3 w A' n' g') (iv : BInv S n g) (iv' : BInv S' n' g') :
    Calls Try.prog 13 #[.slice A n c, .slice A' n' c'] w fun e w' => ∃ v q f, e = .returned v ∧ OwnR we 5 w' 51 w.heap.size v q f ∧ FIs S S' q f ∧ Below w.heap.size w w' := by
  refine (rfwd_w h h' iv.is iv'.is (by have := iv.le; omega) (by have := iv'.le; omega)).mono ?_
  rintro e w' ⟨v, q, f, rfl, ho, hf, hb⟩
  exact ⟨v, q, f, rfl, ho, hf.fis iv.mon iv'.mon, hb⟩
end Go.Proofs.Ytolmdoigcaaieaa
