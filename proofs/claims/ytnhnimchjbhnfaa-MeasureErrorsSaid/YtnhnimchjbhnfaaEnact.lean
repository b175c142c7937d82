/- Package enact: a table in memory; a contract for each function. -/
import Derived.Test.YtnhnimchjbhnfaaRows
import Derived.Test.YtnhnimchjbhnfaaRec
import Derived.Test.YtnhnimchjbhnfaaEnMath
import Derived.Test.YtnhnimchjbhnfaaText
import Derived.Test.YtnhnimchjbhnfaaRate
import Derived.Test.YtnhnimchjbhnfaaPeriod
import Derived.WalkKit
import Derived.WalkSpells
import Derived.WalkLawsBesides
import Derived.Lib.Hide
import Derived.IntWalk
import Derived.Lib.LazyBuf
import Derived.Deep.LoopGhost
import Derived.Deep.QuietTactic
import Derived.BigQuiet
import Derived.Deep.RegionHeld3
import Derived.Deep.RegionLaw
namespace Go.Proofs.Ytnhnimchjbhnfaa
open Go.RowKit

/-- the four cells of a rate -/
def re (x : Rt) : List Value := [.string x.j, .int .i64 x.y, .int .i64 x.r, .int .i64 x.p]
theorem re_len (x : Rt) : (re x).length = 4 := rfl
theorem re_one (x : Rt) : ∀ u ∈ re x, u.oneCell' = true := by
  intro u hu
  unfold re at hu
  simp only [List.mem_cons, List.not_mem_nil, or_false] at hu
  rcases hu with rfl | rfl | rfl | rfl <;> rfl
/-- a rate, as a value -/
abbrev ra (x : Rt) : Value := .agg #[.string x.j, .int .i64 x.y, .int .i64 x.r, .int .i64 x.p]
theorem row_info : (Try.prog.info? 63).map (fun i => (i.zero, i.size, i.bytes)) = some (some (.agg #[.string ⟨#[]⟩, .int .i64 0, .int .i64 0, .int .i64 0]), 4, 40) := by kernel_rfl
theorem row_type : Try.prog.underlying 59 = some (.slice 63) := Try.underlying59
/-- a table of rates behind block sb, whose mark is t -/
structure TabV (E : TypeId) (w : World) (O : Nat → Nat) (base t sb : Nat) (v : Value) (n : Nat) (R : Nat → Rt) : Prop where
  hd : Head w O t sb [v]
  row : RowT w O base t sb E 4 v n (rl re R n)
  inv : TInv n R
section
variable {w w1 : World} {O O1 : Nat → Nat} {base t t' sb n : Nat} {v : Value} {R : Nat → Rt} {E : TypeId}
theorem TabV.below (s : TabV E w O base t sb v n R) (k : Below w.heap.size w w1) : TabV E w1 O base t sb v n R := ⟨s.hd.below k, s.row.below k, s.inv⟩
theorem TabV.step (s : TabV E w O base t sb v n R) (k : Step base O t' w O1 w1) (h : t ≠ t') : TabV E w1 O1 base t sb v n R := ⟨s.hd.step k h, s.row.step k h, s.inv⟩
theorem TabV.own (s : TabV E w O base t sb v n R) : OwnR re 4 w E base v n R := s.row.own
theorem TabV.new (fn : Fin0 base O w) (hb : base ≤ w.heap.size) (E T : TypeId) (R : Nat → Rt) :
    TabV E (w.alloc (.cells #[.slice none 0 0] T)) (mark O t w.heap.size) base t w.heap.size (.slice none 0 0) 0 R ∧ ∀ t', Step base O t' w (mark O t w.heap.size) (w.alloc (.cells #[.slice none 0 0] T)) :=
  ⟨⟨Head.new w O t _ T, RowT.nil _ _ _ _ _ _ _, TInv.nil R⟩, fun t' => Step.made fn hb _ t'⟩
/-- the rates can be read -/
theorem TabV.at (s : TabV E w O base t sb v n R) : ∃ A c, v = .slice A n c ∧ n ≤ c ∧ c ≤ maxLen ∧ (A = none → n = 0 ∧ c = 0) ∧ AtR re 4 w A n R := s.own.at re_len
/-- cells of one of them -/
theorem AtR.four {A : Option Addr} (r : AtR re 4 w A n R) {k : Nat} (hk : k < n) : ∃ b off, A = Option.some ⟨b, off, none⟩ ∧ b < w.heap.size ∧ w.cell? ⟨b, off + k * 4, none⟩ = Option.some (.string (R k).j) ∧ w.cell? ⟨b, off + k * 4 + 1, none⟩ = Option.some (.int .i64 (R k).y) ∧ w.cell? ⟨b, off + k * 4 + 2, none⟩ = Option.some (.int .i64 (R k).r) ∧ w.cell? ⟨b, off + k * 4 + 3, none⟩ = Option.some (.int .i64 (R k).p) := by
  obtain ⟨b, off, e, hb, hc⟩ := r.some (by omega)
  exact ⟨b, off, e, hb, hc k hk 0 _ rfl, hc k hk 1 _ rfl, hc k hk 2 _ rfl, hc k hk 3 _ rfl⟩
theorem enew_any (w : World) : Calls Try.prog 9 #[] w fun e w' => e = .returned (ptr w.heap.size) ∧ w' = w.alloc (.cells #[.slice none 0 0] 61) := by
  go_enter Try.func9, Try.ntmps9
  go_wp2
  go_ret
  exact ⟨rfl, rfl⟩
theorem eright_yes (x : Rt) (w : World) (h : ROk x.j x.y x.r x.p) : Calls Try.prog 27 #[ra x] w fun e w' => e = .returned (.bool true) ∧ Below w.heap.size w w' := by
  obtain ⟨j, y, r, p⟩ := x
  obtain ⟨h1, h2, h3, h4, h5, h6, h7⟩ := h
  obtain ⟨q1, q1'⟩ := ent_some h1
  simp only [ra] at *
  clear h1
  go_enter Try.func27, Try.ntmps27
  go_wp2_with (first | (go_at_call 33; (with_reducible refine (right_yes _ _ h4 h5).mono ?_); rintro e w' ⟨rfl, rfl⟩) | (go_at_call 29; (with_reducible refine (pright_yes _ _ h6 h7).mono ?_); rintro e w' ⟨rfl, rfl⟩))
  go_ret
  exact ⟨rfl, (Below.refl _ _).alloc (Nat.le_refl _) _⟩
theorem eright_no (x : Rt) (w : World) (h : ¬ ROk x.j x.y x.r x.p) : Calls Try.prog 27 #[ra x] w fun e w' => e = .returned (.bool false) ∧ Below w.heap.size w w' := by
  obtain ⟨j, y, r, p⟩ := x
  simp only [ra] at *
  by_cases h1 : j = ⟨#[]⟩
  · subst h1
    go_enter Try.func27, Try.ntmps27
    go_wp2
    go_ret
    exact ⟨rfl, (Below.refl _ _).alloc (Nat.le_refl _) _⟩
  obtain ⟨q1, q1'⟩ := ent_some h1
  rcases (show y < 0 ∨ (0 ≤ y ∧ 99 < y) ∨ (0 ≤ y ∧ y ≤ 99) by omega) with h2 | ⟨h2, h3⟩ | ⟨h2, h3⟩
  · clear h h1
    go_enter Try.func27, Try.ntmps27
    go_wp2
    go_ret
    exact ⟨rfl, (Below.refl _ _).alloc (Nat.le_refl _) _⟩
  · clear h h1
    go_enter Try.func27, Try.ntmps27
    go_wp2
    go_ret
    exact ⟨rfl, (Below.refl _ _).alloc (Nat.le_refl _) _⟩
  · by_cases h4 : 0 ≤ r ∧ r ≤ 1000000
    · have h5 : p < 0 ∨ 399 < p := by
        by_cases q : 0 ≤ p ∧ p ≤ 399
        · exact absurd ⟨h1, h2, h3, h4.1, h4.2, q.1, q.2⟩ h
        · omega
      have R1 := Lib.hid fun w => right_yes r w h4.1 h4.2
      have R2 := Lib.hid fun w => pright_no p w h5
      clear h h1 h4 h5
      go_enter Try.func27, Try.ntmps27
      go_wp2_with (first | (go_at_call 33; (with_reducible refine (R1.out _).mono ?_); rintro e w' ⟨rfl, rfl⟩) | (go_at_call 29; (with_reducible refine (R2.out _).mono ?_); rintro e w' ⟨rfl, rfl⟩))
      go_ret
      exact ⟨rfl, (Below.refl _ _).alloc (Nat.le_refl _) _⟩
    · have R1 := Lib.hid fun w => right_no r w (by omega)
      clear h h1 h4
      go_enter Try.func27, Try.ntmps27
      go_wp2_with (go_at_call 33; (with_reducible refine (R1.out _).mono ?_); rintro e w' ⟨rfl, rfl⟩)
      go_ret
      exact ⟨rfl, (Below.refl _ _).alloc (Nat.le_refl _) _⟩
/-- whether two rates are for the same -/
def eqv (y x : Rt) : Bool := (y.j.toList == x.j.toList) && (y.y == x.y) && (y.p == x.p)
theorem eqv_is (y x : Rt) : eqv y x = true ↔ y.j = x.j ∧ y.y = x.y ∧ y.p = x.p := by
  unfold eqv
  rw [Bool.and_eq_true, Bool.and_eq_true, bytes_is, beq_iff_eq, beq_iff_eq, and_assoc]
theorem ehas1 (y x : Rt) (B : Nat) (w : World) (hB : B < w.heap.size) (hc : ∀ j u, (re x)[j]? = some u → w.cell? ⟨B, j, none⟩ = some u) :
    Calls Try.prog 44 #[ra y, ptr B] w fun e w' => e = .returned (.bool (eqv y x)) ∧ Below w.heap.size w w' := by
  obtain ⟨yj, yy, yr, yp⟩ := y
  obtain ⟨xj, xy, xr, xp⟩ := x
  have c0 := hc 0 _ rfl
  have c1 := hc 1 _ rfl
  have c3 := hc 3 _ rfl
  have hne : B ≠ w.heap.size := by omega
  simp only [ra] at *
  clear hc
  cases h1 : (yj.toList == xj.toList) <;> cases h2 : (yy == xy) <;> cases h3 : (yp == xp)
  all_goals
    go_enter Try.func44, Try.ntmps44
    go_wp2
    go_ret
    exact ⟨by simp [eqv, h1, h2, h3], (Below.refl _ _).alloc (Nat.le_refl _) _⟩
set_option maxHeartbeats 2000000 in
theorem eindex (A : Option Addr) (n c B : Nat) (R : Nat → Rt) (x : Rt) (w : World) (hr : AtR re 4 w A n R) (hn : n ≤ 1000000) (hnc : n ≤ c) (hB : B < w.heap.size) (hc : ∀ j u, (re x)[j]? = some u → w.cell? ⟨B, j, none⟩ = some u) :
    Calls Try.prog 55 #[.slice A n c, .func (.func 44) #[] #[ptr B]] w fun e w' => ∃ i : Int, e = .returned (.int .i64 i) ∧ (0 ≤ i ↔ ∃ k, k < n ∧ eqv (R k) x = true) ∧ Below w.heap.size w w' := by
  have HR := Lib.hid hr
  have HC := Lib.hid hc
  clear hr hc
  go_enter Try.func55, Try.ntmps55
  go_wp2
  go_loopg [5, 8] n (fun gh _ i wr => ∃ k : Nat, k ≤ n ∧ gh = n - k ∧ i = .int .i64 k ∧ (∀ j, j < k → eqv (R j) x = false) ∧ Below w.heap.size w wr)
  case atStart => exact ⟨0, Nat.zero_le _, rfl, rfl, fun j hj => absurd hj (Nat.not_lt_zero _), Below.refl _ _⟩
  case round =>
    obtain ⟨k, hk, hgk, rfl, h0, hbw⟩ := hrel
    have HGK := Lib.hid hgk
    have HB := Lib.hid hbw
    have H0 := Lib.hid h0
    clear hgk hbw h0
    by_cases hlt : k < n
    · obtain ⟨b, off, rfl, hb, c0, c1, c2, c3⟩ := (HR.out.below HB.out).four hlt
      have CL := Lib.hid (ehas1 (R k) x B wr (Nat.lt_of_lt_of_le hB HB.out.size) fun j u hu => cell_keep (HC.out j u hu) HB.out)
      cases hq : eqv (R k) x
      · rw [hq] at CL
        have HQ := Lib.hid hq
        clear hq
        go_wp2_with (go_at_call 44; (refine (CL.out).mono ?_); rintro e w' ⟨rfl, hb'⟩; have HB2 := Lib.hid (HB.out.trans (hb'.mono HB.out.size)); clear hb')
        go_roundg (n - (k + 1))
        case measure => have := HGK.out; omega
        case rel => exact ⟨k + 1, by omega, rfl, by go_num, fun j hj => by
            by_cases e : j = k
            · rw [e]; exact HQ.out
            · exact H0.out j (by omega), HB2.out⟩
      · rw [hq] at CL
        have HQ := Lib.hid hq
        clear hq
        go_wp2_with (go_at_call 44; (refine (CL.out).mono ?_); rintro e w' ⟨rfl, hb'⟩; have HB2 := Lib.hid (HB.out.trans (hb'.mono HB.out.size)); clear hb')
        go_ret
        exact ⟨_, rfl, ⟨fun _ => ⟨k, hlt, HQ.out⟩, fun _ => by omega⟩, HB2.out⟩
    · obtain rfl : k = n := by omega
      clear hlt
      go_wp2
      go_ret
      exact ⟨_, rfl, ⟨fun h => by omega, fun ⟨j, hj, e⟩ => by rw [H0.out j hj] at e; cases e⟩, HB.out⟩
theorem econtains (A : Option Addr) (n c B : Nat) (R : Nat → Rt) (x : Rt) (w : World) (hr : AtR re 4 w A n R) (hn : n ≤ 1000000) (hnc : n ≤ c) (hB : B < w.heap.size) (hc : ∀ j u, (re x)[j]? = some u → w.cell? ⟨B, j, none⟩ = some u)
    (b : Bool) (hb : b = true ↔ ∃ k, k < n ∧ eqv (R k) x = true) :
    Calls Try.prog 43 #[.slice A n c, .func (.func 44) #[] #[ptr B]] w fun e w' => e = .returned (.bool b) ∧ Below w.heap.size w w' := by
  have HB := Lib.hid hb
  have CI := Lib.hid (eindex A n c B R x w hr hn hnc hB hc)
  clear hr hc hb
  go_enter Try.func43, Try.ntmps43
  go_wp2_with fail
  refine (CI.out).mono ?_
  rintro e w1 ⟨i, rfl, hi, hb⟩
  rw [← HB.out] at hi
  have HI := Lib.hid hi
  clear hi
  go_wp2
  go_ret
  refine ⟨congrArg (fun b : Bool => Ending.returned (.bool b)) ?_, hb⟩
  have := HI.out
  cases b
  · simp at this ⊢; omega
  · simp at this ⊢; omega
theorem ehas_any (s : TabV 63 w O base t sb v n R) (x : Rt) (b : Bool) (hb : b = true ↔ TThere R n x.j x.y x.p) :
    Calls Try.prog 28 #[ptr sb, ra x] w fun e w' => e = .returned (.bool b) ∧ Below w.heap.size w w' := by
  have c0 := s.hd.c0
  have lt := s.hd.lt
  have hn := s.inv.le
  obtain ⟨A, c, rfl, hc, hm, _, ha⟩ := s.at
  have z : AtR re 4 (w.alloc (.cells #[.string x.j, .int .i64 x.y, .int .i64 x.r, .int .i64 x.p] 63)) A n R := ha.below ((Below.refl _ _).alloc (Nat.le_refl _) _)
  have CC := Lib.hid (econtains A n c w.heap.size R x _ z (by omega) hc (by simp) (rec_lit w (re x) 63 _ rfl) b (by
    rw [hb]; unfold TThere
    exact ⟨fun ⟨k, hk, e⟩ => ⟨k, hk, (eqv_is _ _).2 e⟩, fun ⟨k, hk, e⟩ => ⟨k, hk, (eqv_is _ _).1 e⟩⟩))
  clear s ha hb z
  simp only [ra] at *
  go_enter Try.func28, Try.ntmps28
  go_wp2_with (go_at_call 43; (refine (CC.out).mono ?_); rintro e w' ⟨rfl, hb'⟩)
  go_ret
  exact ⟨rfl, ((Below.refl _ _).alloc (Nat.le_refl _) _).trans (hb'.mono (by simp))⟩
end
end Go.Proofs.Ytnhnimchjbhnfaa
