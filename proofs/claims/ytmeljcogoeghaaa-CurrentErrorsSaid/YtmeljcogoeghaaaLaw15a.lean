/- Law 15: the program's losses made of the document's; results compared; the document's example. -/
import Derived.Test.YtmeljcogoeghaaaCur
import Derived.Test.YtmeljcogoeghaaaSeq
import Derived.BigQuiet
import Derived.Deep.QuietTactic
namespace Go.Proofs.Ytmeljcogoeghaaa
open Go.RowKit
section
variable {w0 w : World} {O : Nat → Nat} {t sb n : Nat} {S S' : Int → Int → Int} {g : Nat → Bk}
theorem pre_is (iv : VInv S n g) {k : Nat} (hk : k ≤ n) : VIs (bget g k) k g :=
  ⟨⟨fun j hj => iv.is.1.ok j (by omega), fun j hj => iv.is.1.nz j (by omega), fun i j hi hj => iv.is.1.asc i j hi (by omega)⟩, fun _ _ => rfl⟩
theorem pre_err (iv : VInv S n g) {k : Nat} (hk : k < n) : AErr (bget g k) k (btot g k) (g k).c (g k).y (g k).a 0 := by
  have h1 := iv.one hk
  have h2 := iv.all
  have h3 := (tot_upto (g := fun j => (g j).a) (fun j hj => iv.pos j hj) (show k + 1 ≤ n by omega)).2
  have h4 : tot (fun j => (g j).a) (k + 1) = btot g k + (g k).a := rfl
  have h5 : tot (fun j => (g j).a) n = btot g n := rfl
  have h6 := iv.le
  exact .ok ⟨iv.is.1.ok k hk, by omega, by omega⟩ (by omega) (.inr (by omega))
theorem pre_next (g : Nat → Bk) (k : Nat) : adS 0 (bget g k) (g k).c (g k).y (g k).a = bget g (k + 1) := by
  funext c y
  rw [bget_succ]
  unfold adS upS bval
  rw [if_pos rfl]
  by_cases q : c = (g k).c ∧ y = (g k).y
  · rw [if_pos q, if_pos ⟨q.1.symm, q.2.symm⟩, q.1, q.2]
  · rw [if_neg q, if_neg (fun z => q ⟨z.1.symm, z.2.symm⟩), Int.add_zero]
set_option maxHeartbeats 4000000 in
/-- of the document's losses, those of the program -/
theorem pof (h : NowL w0 w O t sb S) :
    Calls Try.prog 17 #[ptr sb] w fun e w' => ∃ sb' O', e = .returned (ptr sb') ∧ NowV w w' O' 1 sb' S ∧ Below w.heap.size w w' := by
  obtain ⟨v, n, g, s, iv⟩ := h.st
  obtain ⟨A, cc, rfl, hc, hm, _, ha⟩ := s.at
  have c0 := s.hd.c0
  have hn := iv.le
  have CN := Lib.hid (pvnew w w (fun _ => 0) (Fin0.zero _ _) (Below.refl _ _) 1)
  have HA := Lib.hid ha
  have IV := Lib.hid iv
  have e0 : Hid ((fun _ _ => 0 : Int → Int → Int) = bget g 0) := Lib.hid rfl
  have e1 : Hid (bget g n = S) := Lib.hid (by funext c y; exact iv.is.2 c y)
  have KC := Lib.hid fun w1 (k : Below w.heap.size w w1) => cell_keep c0 k
  clear h s ha iv c0
  go_enter Try.func17, Try.ntmps17
  go_wp2_with fail
  refine (CN.out).mono ?_
  rintro e w1 ⟨sb1, O1, rfl, n1, st1⟩
  have K1 := Lib.hid n1.low
  rw [e0.out] at n1
  have N1 := Lib.hid n1
  have c0 := KC.out _ K1.out
  clear n1 st1 CN
  go_wp2
  go_loopg [14] n (fun gh i wr => ∃ (k : Nat) (O1 : Nat → Nat), k ≤ n ∧ gh = n - k ∧ i = .int .i64 k ∧ NowV w wr O1 1 sb1 (bget g k))
  case atStart => exact ⟨0, O1, Nat.zero_le _, rfl, rfl, N1.out⟩
  case round =>
    obtain ⟨k, O2, hk, hgk, rfl, n2⟩ := hrel
    have HGK := Lib.hid hgk
    have N2 := Lib.hid n2
    have z2 : sb1 < wr.heap.size := by obtain ⟨_, _, _, s, _⟩ := n2.st; exact s.hd.lt
    clear hgk n2 N1
    by_cases hlt : k < n
    · obtain ⟨b, off, rfl, hb, d0, d1, d2⟩ := (HA.out.below N2.out.low).threeV hlt
      have CA := Lib.hid fun w3 (q : Below wr.heap.size wr w3) => pvadd (N2.out.below q) (by decide) (pre_is IV.out hk) (g k).c (g k).y (g k).a 0 (pre_err IV.out hlt)
      go_wp2_with fail
      refine (CA.out _ ((Below.refl _ _).alloc (Nat.le_refl _) _)).mono ?_
      rintro e w3 ⟨rfl, O3, n3, st3⟩
      rw [pre_next] at n3
      have N3 := Lib.hid n3
      clear n3 st3 CA d0 d1 d2
      go_wp2
      go_roundg (n - (k + 1))
      case measure => have := HGK.out; omega
      case rel => exact ⟨k + 1, O3, by omega, rfl, by go_num, N3.out⟩
    · obtain rfl : k = n := by omega
      clear hlt
      go_wp2
      go_ret
      exact ⟨_, O2, rfl, e1.out ▸ N2.out, N2.out.low⟩
end
set_option maxHeartbeats 4000000 in
set_option maxRecDepth 100000 in
/-- like results -/
theorem csame (i e u n t x : Int) (U U' : Option Addr) (q c c' : Nat) (f f' : Nat → Int) (w : World) (h : At w U q f) (h' : At w U' q f') (hq : q ≤ 1000000) (ef : ∀ j, j < q → f j = f' j) :
    Calls Try.prog 21 #[txa i e u n t x (.slice U q c), txa i e u n t x (.slice U' q c')] w fun e w' => e = .returned (.bool true) ∧ Below w.heap.size w w' := by
  unfold txa
  have CS := Lib.hid fun w3 (k : Below w.heap.size w w3) => same_true U U' q c c' f f' w3 (h.below k) (h'.below k) hq ef
  have e1 : (i == i) = true := by simp
  have e2 : (e == e) = true := by simp
  have e3 : (u == u) = true := by simp
  have e4 : (n == n) = true := by simp
  have e5 : (t == t) = true := by simp
  have e6 : (x == x) = true := by simp
  have K0 := Lib.hid (((Below.refl w.heap.size w).alloc (Nat.le_refl _) (.cells #[.int .i64 i, .int .i64 e, .int .i64 u, .int .i64 n, .int .i64 t, .int .i64 x, .slice U q c] 25)))
  have K1 := Lib.hid (K0.out.alloc K0.out.size (.cells #[.int .i64 i, .int .i64 e, .int .i64 u, .int .i64 n, .int .i64 t, .int .i64 x, .slice U' q c'] 48))
  clear h h'
  go_enter Try.func21, Try.ntmps21
  go_wp2_with fail
  refine (CS.out _ K1.out).mono ?_
  rintro e' w3 ⟨rfl, hb3⟩
  have K3 := Lib.hid (K1.out.trans (hb3.mono K1.out.size))
  clear hb3
  go_wp2
  go_ret
  exact ⟨rfl, K3.out⟩
set_option maxHeartbeats 4000000 in
set_option maxRecDepth 100000 in
theorem wakes15_any (w : World) : Calls Try.prog 12 #[] w fun e w' => e = .returned (.bool true) ∧ Below w.heap.size w w' := by
  have CN := Lib.hid (pvnew w w (fun _ => 0) (Fin0.zero _ _) (Below.refl _ _) 1)
  have H := Lib.hid (show TOk (fun _ _ => 0) 0 (fun _ => ⟨0, 0, 0⟩) ⟨100, 0, 0, 0, 3, 5, 250000⟩ ⟨100, 0, 0, 0, 100, 25, 0, usU (fun _ => ⟨0, 0, 0⟩) 5 (floorV 100 0)⟩ (bget (lessG (fun _ => ⟨0, 0, 0⟩) (usU (fun _ => ⟨0, 0, 0⟩) 5 (floorV 100 0))) 0) from
    ⟨by unfold TArg; dsimp only; omega, inc_y (by unfold Mon; dsimp only; omega) (by dsimp only; omega), ⟨0, fun _ => ⟨0, 0, 0⟩, ⟨by
      have e : xpS (fun _ _ => 0) 5 = fun _ _ => 0 := by funext c y; unfold xpS; split <;> rfl
      dsimp only; rw [e]; exact VInv.zero _, rfl, rfl⟩, .inl ⟨by dsimp only; omega, rfl, rfl, rfl, rfl, rfl⟩⟩, rfl, by dsimp only; decide⟩)
  go_enter Try.func12, Try.ntmps12
  go_wp2_with fail
  refine (CN.out).mono ?_
  rintro e w1 ⟨sb, O1, rfl, n1, _⟩
  have K1 := Lib.hid n1.low
  have CT := Lib.hid (ptax_ok n1 (VInv.zero _) ⟨100, 0, 0, 0, 3, 5, 250000⟩ (by dsimp only; omega) _ H.out)
  unfold txa at CT
  dsimp only at CT
  clear n1 CN
  go_wp2_with fail
  refine (CT.out).mono ?_
  rintro e w2 ⟨sb2, O2, U2, c2, rfl, n2, _, _, hb2⟩
  have K2 := Lib.hid (K1.out.trans (hb2.mono K1.out.size))
  clear n2 hb2 CT
  go_wp2
  go_ret
  exact ⟨rfl, K2.out.alloc K2.out.size _⟩
end Go.Proofs.Ytmeljcogoeghaaa
