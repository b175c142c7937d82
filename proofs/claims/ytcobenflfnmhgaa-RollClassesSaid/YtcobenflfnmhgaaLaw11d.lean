/- RollClasses: its walk. -/
import Derived.Test.YtcobenflfnmhgaaLaw11c
import Derived.WalkKit
import Derived.WalkSpells
import Derived.WalkLawsBesides
import Derived.Lib.Hide
import Derived.IntWalk
import Derived.Laws.StructEq
import Derived.Deep.LoopGhost
import Derived.Deep.QuietTactic
import Derived.BigQuiet
namespace Go.Proofs.Ytcobenflfnmhgaa
open Go.RowKit

theorem roll_info : (Try.prog.info? 36).map (fun i => (i.zero, i.size, i.bytes)) = some (some (.agg #[.int .i64 0, .int .i64 0, .int .i64 0, .int .i64 0, .int .i64 0]), 5, 40) := by kernel_rfl
theorem roll_type : Try.prog.underlying 26 = some (.slice 36) := Try.underlying26
/-- the rows of RollClasses, one a class -/
def fr (x : Nat → Int) : Nat → Wy := fun j => ⟨(j : Int) + 1, j, x j, 5, x j + 5⟩
def fw (x : Nat → Int) : Nat → Wy := fun j => ⟨(j : Int) + 1, -1, x j, 5, x j + 5⟩
/-- .. and twice -/
def ft (x : Nat → Int) : Nat → Wy := fun i => if i % 2 = 0 then fr x (i / 2) else ⟨((i / 2 : Nat) : Int) + 1, 50, 1, -1, 0⟩
def fm (x : Nat → Int) : Nat → Wy := fun j => ⟨(j : Int) + 1, -1, x j + 1, 4, x j + 5⟩
theorem CIs.congr {q m : Nat} {f z z' : Nat → Wy} (h : CIs q f m z) (e : ∀ j, j < m → z j = z' j) : CIs q f m z' :=
  ⟨fun i j hi hj => by rw [← e i (by omega), ← e j hj]; exact h.asc i j hi hj, fun j hj => by rw [← e j hj]; exact h.yr j hj, fun j hj => by rw [← e j hj]; exact h.so j hj, fun j hj => by rw [← e j hj]; exact h.sm j hj, fun j hj => by rw [← e j hj]; exact h.sk j hj, fun j hj => by rw [← e j hj]; exact h.has j hj, fun i hi => by
    obtain ⟨j, hj, h2⟩ := h.all i hi
    exact ⟨j, hj, by rw [← e j hj]; exact h2⟩⟩
theorem cis_fr (x : Nat → Int) : ∀ n, CIs n (fr x) n (fw x)
  | 0 => CIs.zero _ _
  | n + 1 => ((cis_fr x n).push fun j hj => by show ((j : Int) + 1) < (n : Int) + 1; omega).congr fun j hj => by
    by_cases e : j = n
    · rw [e, updW_at]; rfl
    · rw [updW_ne _ _ e]
theorem cis_ft (x : Nat → Int) : ∀ n, CIs (2 * n) (ft x) n (fm x)
  | 0 => CIs.zero _ _
  | n + 1 => by
    have e1 : ft x (2 * n) = fr x n := by
      unfold ft
      rw [if_pos (by omega), show 2 * n / 2 = n by omega]
    have e2 : ft x (2 * n + 1) = ⟨(n : Int) + 1, 50, 1, -1, 0⟩ := by
      unfold ft
      rw [if_neg (by omega), show (2 * n + 1) / 2 = n by omega]
    have a := (cis_ft x n).push fun j hj => by rw [e1]; show ((j : Int) + 1) < (n : Int) + 1; omega
    have b := a.add (by rw [updW_at, e1, e2]; rfl)
    rw [show 2 * (n + 1) = 2 * n + 1 + 1 by omega]
    refine b.congr fun j hj => ?_
    by_cases e : j = n
    · subst e
      rw [updW_at, updW_at, e1, e2]
      unfold fr fm
      rw [show x j + 5 + 0 = x j + 5 by omega]
      rfl
    · rw [updW_ne _ _ e, updW_ne _ _ e]
/-- one more way at the end of an own row, another one stays -/
theorem OwnR.beside {w w1 : World} {E E' : TypeId} {base n n' : Nat} {v v' : Value} {g g' : Nat → Wy} (o : OwnR we 5 w E base v n g) (_o' : OwnR we 5 w E' base v' n' g') (hg : w.grownBy w1 v'.ownBlock) (ha : Apart v v') : OwnR we 5 w1 E base v n g := by
  refine o.kept hg ?_
  cases h : v.ownBlock with
  | none => exact .inl rfl
  | some k => exact .inr fun e => ha k h e.symm
theorem Apart.pushR {w : World} {E : TypeId} {base n' : Nat} {v v' : Value} {g' : Nat → Wy} (h : Apart v v') (o' : OwnR we 5 w E base v' n' g') {b n c H : Nat} (hb : v.ownBlock = some b ∨ b = H) (hH : w.heap.size ≤ H) : Apart (.slice (some ⟨b, 0, none⟩) n c) v' := by
  intro k hk
  have : b = k := by simpa [Value.ownBlock] using hk
  subst this
  rcases hb with hb | rfl
  · exact h _ hb
  · intro e; have := (World.ownsRow.lt o' _ e).2; omega
set_option maxHeartbeats 8000000 in
set_option maxRecDepth 100000 in
theorem rollClasses_walk (a0 : Option Addr) (len0 cap0 : Nat) (z0 : List Int) (w : World) (w0 : IsRow .i64 w a0 len0 cap0 z0) :
    Calls Try.prog 4 #[.slice a0 len0 cap0] w fun e w' => e = .returned (.bool true) ∧ Below w.heap.size w w' := by
  obtain ⟨i0, hi, hz0, hz1, hz2⟩ := info_parts roll_info
  have HR := Lib.hid w0.at.1
  obtain ⟨f, hf⟩ : ∃ f : Nat → Int, (fun j => z0.getD j 0) = f := ⟨_, rfl⟩
  rw [hf] at HR
  obtain ⟨x, hx⟩ : ∃ x : Nat → Int, x = fun j => f j % 2001 - 1000 := ⟨_, rfl⟩
  have hxb : ∀ j, -1000 ≤ x j ∧ x j ≤ 1000 := fun j => by rw [hx]; dsimp only; omega
  have HX := Lib.hid hx
  have HXB := Lib.hid hxb
  clear w0 hf hx hxb
  go_enter Try.func4, Try.ntmps4
  go_wp2
  go_loopg [3, 4, 5] 9 (fun gh s3 s4 s5 wr => ∃ k : Nat, k ≤ 9 ∧ k ≤ len0 ∧ gh = 9 - k ∧ s5 = .int .i64 k ∧ OwnR we 5 wr 36 w.heap.size s3 k (fr x) ∧ OwnR we 5 wr 36 w.heap.size s4 k (fw x) ∧ Apart s3 s4 ∧ Below w.heap.size w wr)
  case atStart => exact ⟨0, by omega, by omega, rfl, rfl, OwnR.nil _ _ _ _ _ _, OwnR.nil _ _ _ _ _ _, Apart.nil _, Below.refl _ _⟩
  case round =>
    obtain ⟨k, hk9, hkl, hgk, rfl, ho3, ho4, hap, hb⟩ := hrel
    have HGK := Lib.hid hgk
    have O3 := Lib.hid ho3
    have O4 := Lib.hid ho4
    have AP := Lib.hid hap
    have HB := Lib.hid hb
    clear hgk ho3 ho4 hap hb
    by_cases hlt : k < len0 ∧ k < 9
    · obtain ⟨l0, l1⟩ := hlt
      obtain ⟨b, off, rfl, hbl, hc⟩ := HR.out.some (by omega)
      have c0 := cell_keep (hc k l0) HB.out
      have k1 : (k : Int) < (len0 : Int) := by omega
      have k2 : decide (k < 9) = true := by simpa using l1
      have xb := HXB.out k
      obtain ⟨u, hu⟩ : ∃ u, f k % 2001 = u := ⟨_, rfl⟩
      have hxk : x k = u - 1000 := by rw [HX.out]; dsimp only; rw [hu]
      have HU := Lib.hid hu
      obtain ⟨xk, hxk'⟩ : ∃ y, u - 1000 = y := ⟨_, rfl⟩
      rw [hxk'] at hxk
      rw [hxk] at xb
      have ew1 : IntKind.i64.wrap (u - 1000) = xk := by rw [← hxk']; exact IntWalk.i64_in _ (by omega)
      have ew2 : IntKind.i64.wrap (xk + 5) = xk + 5 := IntWalk.i64_in _ (by omega)
      have ew3 : IntKind.i64.wrap ((k : Int) + 1) = (k : Int) + 1 := IntWalk.i64_in _ (by omega)
      have HXK := Lib.hid hxk
      clear hc hu hxk hxk' xb
      have zw : Hid (w.heap.size ≤ wr.heap.size) := Lib.hid HB.out.size
      have e3 : Hid (∀ j, j < k + 1 → (if j = k then (⟨(k : Int) + 1, (k : Int), xk, 5, xk + 5⟩ : Wy) else fr x j) = fr x j) := Lib.hid fun j hj => by
        by_cases e : j = k
        · rw [if_pos e, e]; unfold fr; rw [HXK.out]
        · rw [if_neg e]
      have e4 : Hid (∀ j, j < k + 1 → (if j = k then (⟨(k : Int) + 1, -1, xk, 5, xk + 5⟩ : Wy) else fw x j) = fw x j) := Lib.hid fun j hj => by
        by_cases e : j = k
        · rw [if_pos e, e]; unfold fw; rw [HXK.out]
        · rw [if_neg e]
      go_wp2_with (first | (go_at_call 13; (with_reducible refine (within_at _ _ u _ (by omega) (by omega) HU).mono ?_); rintro e w' ⟨rfl, rfl⟩) | (at_builtin; (refine wpList_push_r rfl (.tmp 30) (.tmp 38) rfl roll_type hi hz0 hz1 hz2 (by decide) rfl (by decide) we_len we_one w w.heap.size k wr.heap.size _ (fr x) ⟨(k : Int) + 1, (k : Int), xk, 5, xk + 5⟩ rfl rfl (rec_lit wr (we ⟨(k : Int) + 1, (k : Int), xk, 5, xk + 5⟩) 36 _ rfl) (O3.out.alloc _) (by omega) (HB.out.alloc HB.out.size _) (by have := zw.out; simp; omega) _ rfl ?_; intro b6 c6 w6 ho6 hb6 hg6 hat6; have P4 := Lib.hid ((O4.out.alloc (.cells (we ⟨(k : Int) + 1, (k : Int), xk, 5, xk + 5⟩).toArray 36)).beside (O3.out.alloc _) hg6 AP.out.symm); have A6 := Lib.hid (AP.out.pushR (O4.out.alloc (.cells (we ⟨(k : Int) + 1, (k : Int), xk, 5, xk + 5⟩).toArray 36)) (n := k + 1) (c := c6) hat6 (Nat.le_refl _)); have P3 := Lib.hid (ho6.ext e3.out); have B6 := Lib.hid hb6; clear ho6 hb6 hg6 hat6)) | (at_builtin; (refine wpList_push_r rfl (.tmp 40) (.tmp 47) rfl roll_type hi hz0 hz1 hz2 (by decide) rfl (by decide) we_len we_one w w.heap.size k w6.heap.size _ (fw x) ⟨(k : Int) + 1, -1, xk, 5, xk + 5⟩ rfl rfl (rec_lit w6 (we ⟨(k : Int) + 1, -1, xk, 5, xk + 5⟩) 36 _ rfl) (P4.out.alloc _) (by omega) (B6.out.alloc B6.out.size _) (by have := B6.out.size; simp; omega) _ rfl ?_; intro b8 c8 w8 ho8 hb8 hg8 hat8; have Q3 := Lib.hid ((P3.out.alloc (.cells (we ⟨(k : Int) + 1, -1, xk, 5, xk + 5⟩).toArray 36)).beside (P4.out.alloc _) hg8 A6.out); have A8 := Lib.hid (A6.out.symm.pushR (P3.out.alloc (.cells (we ⟨(k : Int) + 1, -1, xk, 5, xk + 5⟩).toArray 36)) (n := k + 1) (c := c8) hat8 (Nat.le_refl _)).symm; have Q4 := Lib.hid (ho8.ext e4.out); have B8 := Lib.hid hb8; clear ho8 hb8 hg8 hat8)))
      go_roundg (9 - (k + 1))
      case measure => have := HGK.out; omega
      case rel => exact ⟨k + 1, by omega, by omega, rfl, by go_num, Q3.out, Q4.out, A8.out, B8.out⟩
    · rcases (show ¬ k < len0 ∨ (k < len0 ∧ ¬ k < 9) by omega) with hq | ⟨hq1, hq⟩
      all_goals
        clear hlt
        obtain ⟨A3, c3, rfl, hc3, hm3, _⟩ := O3.out.form
        obtain ⟨A4, c4, rfl, hc4, hm4, _⟩ := O4.out.form
        have sm1 : Hid (∀ j, j < k → Small (fr x j)) := Lib.hid fun j _ => by have := HXB.out j; unfold Small fr; dsimp only; omega
        have sm2 : Hid (∀ j, j < 2 * k → Small (ft x j)) := Lib.hid fun j _ => by
          have := HXB.out (j / 2)
          unfold ft
          split
          · unfold Small fr; dsimp only; omega
          · unfold Small; dsimp only; omega
        have C1 := Lib.hid (pcls (c := c3) (own_at O3.out) (by omega) sm1.out ⟨hc3, hm3⟩)
        go_wp2_with fail
        refine (C1.out).mono ?_
        rintro e w9 ⟨A5, m, c5, z, rfl, ho5, hc5, _, hb5⟩
        obtain ⟨rfl, ez⟩ := (cis_fr x k).uniq hc5
        have T3 := Lib.hid ((own_at O3.out).below hb5)
        have T4 := Lib.hid ((own_at O4.out).below hb5)
        have T5 := Lib.hid ((own_at ho5).ext fun j hj => (ez j hj).symm)
        have B9 := Lib.hid (HB.out.trans (hb5.mono HB.out.size))
        clear ho5 hc5 hb5 ez C1
        go_wp2_with fail
        go_loopg [8, 53] k (fun gh s8 s53 wr => ∃ i : Nat, i ≤ k ∧ gh = k - i ∧ s53 = .int .i64 i ∧ OwnR we 5 wr 36 w9.heap.size s8 (2 * i) (ft x) ∧ Below w9.heap.size w9 wr)
        case atStart => exact ⟨0, Nat.zero_le _, rfl, rfl, OwnR.nil _ _ _ _ _ _, Below.refl _ _⟩
        case round =>
          obtain ⟨i, hi1, hgi, rfl, ho8, hb8⟩ := hrel
          have HGI := Lib.hid hgi
          have O8 := Lib.hid ho8
          have K8 := Lib.hid hb8
          clear hgi ho8 hb8
          by_cases hik : i < k
          · obtain ⟨b, off, rfl, hbl, d0, d1, d2, d3, d4⟩ := (T3.out.below K8.out).five hik
            simp only [fr] at d0 d1 d2 d3 d4
            obtain ⟨u, hu⟩ : ∃ u, x i = u := ⟨_, rfl⟩
            rw [hu] at d2 d4
            have i1 : (i : Int) < (k : Int) := by omega
            have HU := Lib.hid hu
            have LIT : Hid (World.ownsRow ((wr.alloc (.cells #[.int .i64 ((i : Int) + 1), .int .i64 (i : Int), .int .i64 u, .int .i64 5, .int .i64 (u + 5)] 36)).alloc (.cells #[.int .i64 ((i : Int) + 1), .int .i64 (i : Int), .int .i64 u, .int .i64 5, .int .i64 (u + 5), .int .i64 ((i : Int) + 1), .int .i64 50, .int .i64 1, .int .i64 (-1), .int .i64 0] 36)) 0 36 5 (.slice (some ⟨wr.heap.size + 1, 0, none⟩) 2 2) 2 [.int .i64 ((i : Int) + 1), .int .i64 (i : Int), .int .i64 u, .int .i64 5, .int .i64 (u + 5), .int .i64 ((i : Int) + 1), .int .i64 50, .int .i64 1, .int .i64 (-1), .int .i64 0]) := Lib.hid (by
              have l := World.ownsRow_lit (base := 0) (e := 36) (size := 5) (wr.alloc (.cells #[.int .i64 ((i : Int) + 1), .int .i64 (i : Int), .int .i64 u, .int .i64 5, .int .i64 (u + 5)] 36)) #[.int .i64 ((i : Int) + 1), .int .i64 (i : Int), .int .i64 u, .int .i64 5, .int .i64 (u + 5), .int .i64 ((i : Int) + 1), .int .i64 50, .int .i64 1, .int .i64 (-1), .int .i64 0] 2 (Nat.zero_le _) (by decide) rfl
              rw [show (wr.alloc (.cells #[.int .i64 ((i : Int) + 1), .int .i64 (i : Int), .int .i64 u, .int .i64 5, .int .i64 (u + 5)] 36)).heap.size = wr.heap.size + 1 by simp] at l
              exact l)
            have ERL : Hid (rl we (ft x) (2 * i) ++ [.int .i64 ((i : Int) + 1), .int .i64 (i : Int), .int .i64 u, .int .i64 5, .int .i64 (u + 5), .int .i64 ((i : Int) + 1), .int .i64 50, .int .i64 1, .int .i64 (-1), .int .i64 0] = rl we (ft x) (2 * (i + 1))) := Lib.hid (by
              have e1 : ft x (2 * i) = fr x i := by
                unfold ft
                rw [if_pos (by omega), show 2 * i / 2 = i by omega]
              have e2 : ft x (2 * i + 1) = ⟨(i : Int) + 1, 50, 1, -1, 0⟩ := by
                unfold ft
                rw [if_neg (by omega), show (2 * i + 1) / 2 = i by omega]
              rw [show 2 * (i + 1) = 2 * i + 1 + 1 by omega, rl_succ, rl_succ, e1, e2, List.append_assoc, ← HU.out]
              rfl)
            clear hu
            have zk : Hid (w9.heap.size ≤ wr.heap.size) := Lib.hid K8.out.size
            go_wp2_with (at_builtin; go_loud (refine wpList_app_row rfl (.tmp 57) (.tmp 62) rfl roll_type hi hz0 hz1 hz2 rfl (by decide) w9 w9.heap.size 0 (2 * i) 2 2 _ _ _ _ rfl rfl ((O8.out.alloc _).alloc _) LIT.out (by simp only [List.forall_mem_cons]; exact ⟨rfl, rfl, rfl, rfl, rfl, rfl, rfl, rfl, rfl, rfl, fun _ h => by cases h⟩) (by unfold maxLen; omega) (by omega) ((K8.out.alloc K8.out.size _).alloc (by have := zk.out; simp; omega) _) (by have := zk.out; simp; omega) ?_; intro v1 w10 ho10 hb10 hg10; have E10 := Lib.hid ho10; have B10 := Lib.hid hb10; clear ho10 hb10 hg10))
            go_roundg (k - (i + 1))
            case measure => have := HGI.out; omega
            case rel =>
              have e10 := E10.out
              rw [ERL.out] at e10
              exact ⟨i + 1, by omega, rfl, by go_num, e10, B10.out⟩
          · obtain rfl : i = k := by omega
            clear hi1 hik
            obtain ⟨A8, c8, rfl, hc8, hm8, _⟩ := O8.out.form
            have C2 := Lib.hid (pcls (c := c8) (own_at O8.out) (by omega) sm2.out ⟨hc8, hm8⟩)
            go_wp2_with fail
            refine (C2.out).mono ?_
            rintro e w10 ⟨A7, m, c7, z2, rfl, ho7, hc7, _, hb7⟩
            obtain ⟨rfl, ez⟩ := (cis_ft x i).uniq hc7
            have F4 := Lib.hid ((T4.out.below K8.out).below hb7)
            have F5 := Lib.hid ((T5.out.below K8.out).below hb7)
            have F7 := Lib.hid ((own_at ho7).ext fun j hj => (ez j hj).symm)
            have BA := Lib.hid (B9.out.trans (K8.out.mono B9.out.size) |>.trans (hb7.mono (Nat.le_trans B9.out.size K8.out.size)))
            clear ho7 hc7 hb7 ez C2
            have ei : ((i : Int) != (i : Int)) = false := by simp
            go_wp2_with fail
            go_loopg [74] i (fun gh s74 wr => ∃ j : Nat, j ≤ i ∧ gh = i - j ∧ s74 = .int .i64 j ∧ Below w10.heap.size w10 wr)
            case atStart => exact ⟨0, Nat.zero_le _, rfl, rfl, Below.refl _ _⟩
            case round =>
              obtain ⟨j, hj1, hgj, rfl, hb11⟩ := hrel
              have HGJ := Lib.hid hgj
              have KB := Lib.hid hb11
              clear hgj hb11
              by_cases hji : j < i
              · obtain ⟨b4, off4, rfl, hb4, p0, p1, p2, p3, p4⟩ := (F4.out.below KB.out).five hji
                obtain ⟨b7, off7, rfl, hb7, q0, q1, q2, q3, q4⟩ := (F7.out.below KB.out).five hji
                simp only [fw] at p0 p1 p2 p3 p4
                simp only [fm] at q0 q1 q2 q3 q4
                have xb := HXB.out j
                obtain ⟨u, hu⟩ : ∃ u, x j = u := ⟨_, rfl⟩
                rw [hu] at p2 p4 q2 q4 xb
                have HU := Lib.hid hu
                have j1 : (j : Int) < (i : Int) := by omega
                have ew : IntKind.i64.wrap (u + 1) = u + 1 := IntWalk.i64_in _ (by omega)
                clear hu xb
                go_wp2
                go_big_quiet (fail)
                go_wp2
                go_roundg (i - (j + 1))
                case measure => have := HGJ.out; omega
                case rel => exact ⟨j + 1, by omega, rfl, by go_num, below_drewN ((KB.out).alloc KB.out.size _) _⟩
              · obtain rfl : j = i := by omega
                clear hj1 hji
                have C3 := Lib.hid (wsame_true (c := c5) (c' := c4) A5 A4 j (fw x) (fw x) wr (F5.out.below KB.out) (F4.out.below KB.out) (by omega) fun _ _ => rfl)
                go_wp2_with fail
                refine (C3.out).mono ?_
                rintro e w11 ⟨rfl, hb11⟩
                have K11 := Lib.hid (BA.out.trans (KB.out.mono BA.out.size) |>.trans (hb11.mono (Nat.le_trans BA.out.size KB.out.size)))
                clear hb11 C3
                have C4 := Lib.hid (pcls (w := w11) (A := none) (q := 0) (c := 0) (f := fw x) (.inl rfl) (by omega) (fun _ h => by omega) (by unfold maxLen; omega))
                go_wp2_with fail
                refine (C4.out).mono ?_
                rintro e w12 ⟨A9, m9, c9, z9, rfl, ho9, hc9, hm9, hb9⟩
                obtain rfl : m9 = 0 := by omega
                have K12 := Lib.hid (K11.out.trans (hb9.mono K11.out.size))
                clear ho9 hc9 hm9 hb9 C4
                have hok : BOk 2 3 := by unfold BOk; omega
                have iv := one_inv (a := -4) hok (by decide) (by unfold Mon; omega)
                have FO := fis_one (a := 0) (b := -4) hok (by omega)
                rw [oneB_zero] at FO
                have FH := Lib.hid FO
                have C5 := Lib.hid (pfwd (w := w12.alloc (.cells #[.int .i64 2, .int .i64 3, .int .i64 (-4)] 40)) (c := 0) (c' := 1) (at_none none (fun _ => ⟨0, 0, 0⟩)) (at_one (b := w12.heap.size) (c := 2) (y := 3) (a := -4) (fun j u hu => rec_lit w12 (be ⟨2, 3, -4⟩) 40 w12.heap.size rfl j u hu) (by simp)) (BInv.zero _) iv (by unfold maxLen; omega) (by unfold maxLen; omega))
                clear iv FO hok
                go_wp2_with fail
                refine (C5.out).mono ?_
                rintro e w13 ⟨A9, q9, c9, f9, rfl, ho9, hf9, hb9⟩
                obtain ⟨rfl, _⟩ := FH.out.uniq hf9
                have K13 := Lib.hid ((K12.out.alloc K12.out.size _).trans (hb9.mono (by have := K12.out.size; simp; omega)))
                clear ho9 hf9 hb9 C5 FH
                go_wp2_with fail
                refine (wakes11_any _).mono ?_
                rintro e w14 ⟨rfl, hb14⟩
                have K14 := Lib.hid (K13.out.trans (hb14.mono K13.out.size))
                clear hb14
                go_wp2
                go_ret
                exact ⟨rfl, K14.out⟩
end Go.Proofs.Ytcobenflfnmhgaa
