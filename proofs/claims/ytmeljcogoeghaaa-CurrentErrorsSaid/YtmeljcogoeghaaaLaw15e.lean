/- CurrentErrors: its walk. -/
import Derived.Test.YtmeljcogoeghaaaLaw15d
import Derived.Test.YtmeljcogoeghaaaLaw15b
namespace Go.Proofs.Ytmeljcogoeghaaa
open Go.RowKit

/-- the eight cells of a try -/
def e15 (x : Tq × Int) : List Value := [.int .i64 x.1.book, .int .i64 x.1.perm, .int .i64 x.1.moved, .int .i64 x.1.cap, .int .i64 x.1.life, .int .i64 x.1.year, .int .i64 x.1.r, .int .i64 x.2]
def l15 (n : Int) : List Value := [.int .i64 n, .int .i64 0, .int .i64 0, .int .i64 (-1), .int .i64 1, .int .i64 1, .int .i64 1, .int .i64 1, .int .i64 n, .int .i64 0, .int .i64 0, .int .i64 1000001, .int .i64 1, .int .i64 1, .int .i64 1, .int .i64 1, .int .i64 n, .int .i64 0, .int .i64 0, .int .i64 1, .int .i64 (-1), .int .i64 1, .int .i64 1, .int .i64 1, .int .i64 n, .int .i64 0, .int .i64 0, .int .i64 1, .int .i64 1, .int .i64 100, .int .i64 1, .int .i64 1, .int .i64 n, .int .i64 0, .int .i64 0, .int .i64 1, .int .i64 1, .int .i64 1, .int .i64 (-1), .int .i64 1, .int .i64 100000000000, .int .i64 1, .int .i64 0, .int .i64 1, .int .i64 1, .int .i64 1, .int .i64 1, .int .i64 6, .int .i64 100000000001, .int .i64 0, .int .i64 0, .int .i64 1, .int .i64 1, .int .i64 1, .int .i64 1, .int .i64 6, .int .i64 (-1 - n), .int .i64 0, .int .i64 0, .int .i64 1, .int .i64 60, .int .i64 15, .int .i64 1, .int .i64 5, .int .i64 (-100000000000), .int .i64 0, .int .i64 0, .int .i64 1, .int .i64 5, .int .i64 15, .int .i64 1, .int .i64 6, .int .i64 n, .int .i64 0, .int .i64 0, .int .i64 1, .int .i64 1, .int .i64 15, .int .i64 1, .int .i64 0]
theorem e15_len (x : Tq × Int) : (e15 x).length = 8 := rfl
theorem l15_is (n : Int) : l15 n = rl e15 (p15 n) 10 := rfl
theorem l15_at (n : Int) (j : Nat) (hj : j < 10) (i : Nat) (u : Value) (hu : (e15 (p15 n j))[i]? = some u) : (l15 n)[j * 8 + i]? = some u := by
  have hi : i < 8 := (List.getElem?_eq_some_iff.1 hu).1
  rw [l15_is, rl_get e15_len hj hi]; exact hu
set_option maxHeartbeats 16000000 in
set_option maxRecDepth 100000 in
theorem currentErrors_walk (a0 : Int) (w : World) :
    Calls Try.prog 4 #[.int .i64 a0] w fun e w' => e = .returned (.bool true) ∧ Below w.heap.size w w' := by
  have W := Lib.hid fun w => wakes15_any w
  obtain ⟨n, hn⟩ : ∃ n, a0 % 1000 = n := ⟨_, rfl⟩
  have bn : 0 ≤ n ∧ n ≤ 1000 := by omega
  have E1 := Lib.hid hn
  have BN := Lib.hid bn
  have CN := Lib.hid (pvnew w w (fun _ => 0) (Fin0.zero _ _) (Below.refl _ _) 1)
  have e0 : Hid ((fun _ _ => 0 : Int → Int → Int) = bget g12 0) := Lib.hid rfl
  clear hn
  go_enter Try.func4, Try.ntmps4
  go_wp2_with (go_at_call 7; (with_reducible refine (within_at _ _ _ _ (by omega) (by omega) E1).mono ?_); rintro e w' ⟨rfl, rfl⟩)
  refine (CN.out).mono ?_
  rintro e w1 ⟨sb, O1, rfl, n1, st1⟩
  rw [e0.out] at n1
  have N1 := Lib.hid n1
  clear n1 st1 CN
  go_wp2
  go_loopg [4] 12 (fun gh i wr => ∃ (k : Nat) (O2 : Nat → Nat), k ≤ 12 ∧ gh = 12 - k ∧ i = .int .i64 k ∧ NowV w wr O2 1 sb (bget g12 k))
  case atStart => exact ⟨0, O1, Nat.zero_le _, rfl, rfl, N1.out⟩
  case round =>
    obtain ⟨k, O2, hk, hgk, rfl, n2⟩ := hrel
    have HGK := Lib.hid hgk
    have N2 := Lib.hid n2
    clear hgk n2 N1
    by_cases hlt : k < 12
    · have CA := Lib.hid (pvadd N2.out (by decide) (pre_is is12 hk) ((k : Int) + 20) k 5 0 (pre_err is12 hlt))
      go_wp2_with fail
      refine (CA.out).mono ?_
      rintro e w3 ⟨rfl, O3, n3, st3⟩
      have en : adS 0 (bget g12 k) ((k : Int) + 20) k 5 = bget g12 (k + 1) := pre_next g12 k
      rw [en] at n3
      have N3 := Lib.hid n3
      clear n3 st3 CA en
      go_wp2
      go_roundg (12 - (k + 1))
      case measure => have := HGK.out; omega
      case rel => exact ⟨k + 1, O3, by omega, rfl, by go_num, N3.out⟩
    · obtain rfl : k = 12 := by omega
      clear hlt hk HGK
      obtain ⟨wo, rfl⟩ : ∃ wo, wo = wr := ⟨_, rfl⟩
      have R5 := Lib.hid (rec_lit wo (l15 n) 41 wo.heap.size rfl)
      have K5 := Lib.hid (show Below wo.heap.size wo (wo.alloc (.cells #[.int .i64 n, .int .i64 0, .int .i64 0, .int .i64 (-1), .int .i64 1, .int .i64 1, .int .i64 1, .int .i64 1, .int .i64 n, .int .i64 0, .int .i64 0, .int .i64 1000001, .int .i64 1, .int .i64 1, .int .i64 1, .int .i64 1, .int .i64 n, .int .i64 0, .int .i64 0, .int .i64 1, .int .i64 (-1), .int .i64 1, .int .i64 1, .int .i64 1, .int .i64 n, .int .i64 0, .int .i64 0, .int .i64 1, .int .i64 1, .int .i64 100, .int .i64 1, .int .i64 1, .int .i64 n, .int .i64 0, .int .i64 0, .int .i64 1, .int .i64 1, .int .i64 1, .int .i64 (-1), .int .i64 1, .int .i64 100000000000, .int .i64 1, .int .i64 0, .int .i64 1, .int .i64 1, .int .i64 1, .int .i64 1, .int .i64 6, .int .i64 100000000001, .int .i64 0, .int .i64 0, .int .i64 1, .int .i64 1, .int .i64 1, .int .i64 1, .int .i64 6, .int .i64 (-1 - n), .int .i64 0, .int .i64 0, .int .i64 1, .int .i64 60, .int .i64 15, .int .i64 1, .int .i64 5, .int .i64 (-100000000000), .int .i64 0, .int .i64 0, .int .i64 1, .int .i64 5, .int .i64 15, .int .i64 1, .int .i64 6, .int .i64 n, .int .i64 0, .int .i64 0, .int .i64 1, .int .i64 1, .int .i64 15, .int .i64 1, .int .i64 0] 41)) from (Below.refl _ _).alloc (Nat.le_refl _) _)
      have ER := Lib.hid (fun j hj => errs15 BN.out j hj)
      have AT := Lib.hid (fun j hj => l15_at n j hj)
      go_wp2
      go_loopg [44] 10 (fun gh i w6 => ∃ k : Nat, k ≤ 10 ∧ gh = 10 - k ∧ i = .int .i64 k ∧ Below wo.heap.size wo w6 ∧ Below (wo.alloc (.cells (l15 n).toArray 41)).heap.size (wo.alloc (.cells (l15 n).toArray 41)) w6)
      case atStart => exact ⟨0, Nat.zero_le _, rfl, rfl, K5.out, Below.refl _ _⟩
      case round =>
        obtain ⟨k, hk, hgk, rfl, hb6, hc6⟩ := hrel
        have HGK := Lib.hid hgk
        have K6 := Lib.hid hb6
        have C6 := Lib.hid hc6
        clear hgk hb6 hc6 K5
        by_cases hlt : k < 10
        · obtain ⟨mv, hcase⟩ := ER.out k hlt
          have cc := fun i u hu => cell_keep (R5.out (k * 8 + i) u (AT.out k hlt i u hu)) C6.out
          obtain ⟨pe, hpe⟩ : ∃ pe, p15 n k = pe := ⟨_, rfl⟩
          rw [hpe] at cc hcase mv
          obtain ⟨⟨book, perm, moved, cap, life, year, r⟩, er⟩ := pe
          dsimp only at hcase mv
          have c0 := cc 0 _ rfl
          have c1 := cc 1 _ rfl
          have c2 := cc 2 _ rfl
          have c3 := cc 3 _ rfl
          have c4 := cc 4 _ rfl
          have c5 := cc 5 _ rfl
          have c6 := cc 6 _ rfl
          have c7 := cc 7 _ rfl
          rw [Nat.add_zero] at c0
          dsimp only at c0 c1 c2 c3 c4 c5 c6 c7
          have NO := Lib.hid (N2.out.below (K6.out))
          have NX := Lib.hid (NO.out.below ((Below.refl wr.heap.size wr).alloc (Nat.le_refl _) (.cells #[.int .i64 book, .int .i64 perm, .int .i64 moved, .int .i64 cap, .int .i64 life, .int .i64 year, .int .i64 r, .int .i64 er] 41)))
          have RX := Lib.hid (rec_lit wr [.int .i64 book, .int .i64 perm, .int .i64 moved, .int .i64 cap, .int .i64 life, .int .i64 year, .int .i64 r, .int .i64 er] 41 wr.heap.size rfl)
          have KX := Lib.hid (K6.out.alloc K6.out.size (.cells #[.int .i64 book, .int .i64 perm, .int .i64 moved, .int .i64 cap, .int .i64 life, .int .i64 year, .int .i64 r, .int .i64 er] 41))
          have CX := Lib.hid (C6.out.alloc C6.out.size (.cells #[.int .i64 book, .int .i64 perm, .int .i64 moved, .int .i64 cap, .int .i64 life, .int .i64 year, .int .i64 r, .int .i64 er] 41))
          have MV := Lib.hid mv
          clear cc mv hpe
          rcases hcase with ⟨he0, hno⟩ | ⟨rfl, x, S', hok⟩
          · have CP := Lib.hid (ptax_no NX.out is12 ⟨book, perm, moved, cap, life, year, r⟩ MV.out hno)
            unfold txa at CP
            dsimp only at CP
            have q1 : (er == er) = true := by simp
            have q2 : ¬ er = 0 := he0
            clear hno he0
            go_wp2_with fail
            refine (CP.out).mono ?_
            rintro e w7 ⟨rfl, hb7⟩
            have x7 := cell_keep (RX.out 7 _ rfl) hb7
            have x8 : wr.heap.size < w7.heap.size := by have := hb7.size; simp at this; omega
            have K7 := Lib.hid (KX.out.trans (hb7.mono KX.out.size))
            have C7 := Lib.hid (CX.out.trans (hb7.mono CX.out.size))
            clear hb7 CP RX c0 c1 c2 c3 c4 c5 c6 c7
            go_wp2
            go_roundg (10 - (k + 1))
            case measure => have := HGK.out; omega
            case rel => exact ⟨k + 1, by omega, rfl, by go_num, K7.out.alloc K7.out.size _, C7.out.alloc C7.out.size _⟩
          · obtain ⟨inc, ex, used, nw, txb, tax, q, u⟩ := x
            have CP := Lib.hid (ptax_ok NX.out is12 ⟨book, perm, moved, cap, life, year, r⟩ MV.out _ hok)
            unfold txa at CP
            dsimp only at CP
            clear hok
            go_wp2_with fail
            refine (CP.out).mono ?_
            rintro e w7 ⟨sb7, O7, U7, c7', rfl, _, _, _, hb7⟩
            have x7 := cell_keep (RX.out 7 _ rfl) hb7
            have x8 : wr.heap.size < w7.heap.size := by have := hb7.size; simp at this; omega
            have K7 := Lib.hid (KX.out.trans (hb7.mono KX.out.size))
            have C7 := Lib.hid (CX.out.trans (hb7.mono CX.out.size))
            clear hb7 CP RX c0 c1 c2 c3 c4 c5 c6 c7
            go_wp2
            go_roundg (10 - (k + 1))
            case measure => have := HGK.out; omega
            case rel => exact ⟨k + 1, by omega, rfl, by go_num, K7.out.alloc K7.out.size _, C7.out.alloc C7.out.size _⟩
        · obtain rfl : k = 10 := by omega
          have CF := Lib.hid (pvleft (N2.out.below K6.out) is12.is)
          rw [btot12] at CF
          have LO := Lib.hid (N2.out.low.trans (K6.out.mono N2.out.low.size))
          clear hlt HGK hk
          go_wp2_with fail
          refine (CF.out).mono ?_
          rintro e w8 ⟨rfl, hb8⟩
          have K8 := Lib.hid (LO.out.trans (hb8.mono LO.out.size))
          clear hb8 CF
          go_wp2_with (go_at_call 12; (with_reducible refine (W.out _).mono ?_); rintro e w9 ⟨rfl, hb9⟩; have K9 := Lib.hid (K8.out.trans (hb9.mono K8.out.size)); clear hb9)
          go_ret
          exact ⟨rfl, K9.out⟩
end Go.Proofs.Ytmeljcogoeghaaa
