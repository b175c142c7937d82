/- Package remeasure, the program's own: a contract for each of its calls. -/
import Derived.Test.YtmlafdehhbhbiaaRRem
import Derived.Test.YtmlafdehhbhbiaaM9
import Derived.Test.YtmlafdehhbhbiaaM6
import Derived.Test.YtmlafdehhbhbiaaM2
namespace Go.Proofs.Ytmlafdehhbhbiaa
open Go.RowKit
theorem load_cr {w : World} {O : Nat → Nat} {t b : Nat} {m r : Int} (h : Head w O t b [.int .i64 m, .int .i64 r]) : (loadVar 42 ⟨b, 0, none⟩).run Try.prog w = .ok (.agg #[.int .i64 m, .int .i64 r]) w := by
  have c0 := h.cell 0 _ rfl
  have c1 := h.cell 1 _ rfl
  clear h
  go_simp
theorem pwshr_at (a r x : Int) (w : World) (h1 : -400000000000 ≤ a ∧ a ≤ 400000000000) (h2 : 0 ≤ r ∧ r ≤ 10000000) (H : Hid (rof a r = x)) :
    Calls Try.prog 73 #[.int .i64 a, .int .i64 r] w fun e' w' => e' = .returned (.int .i64 x) ∧ w = w' := by
  go_enter Try.func73, Try.ntmps73
  go_wp2_with (first | (go_at_call 46; (with_reducible refine (of_at _ _ _ _ (by omega) (by omega) (by omega) (by omega) H).mono ?_); rintro e w' ⟨rfl, rfl⟩))
  go_ret
  exact ⟨rfl, rfl⟩
theorem ptot_any (m r : Int) (w : World) (h : Mon m ∧ Mon r) :
    Calls Try.prog 56 #[.agg #[.int .i64 m, .int .i64 r]] w fun e w' => e = .returned (.int .i64 (m + r)) ∧ Below w.heap.size w w' := by
  obtain ⟨⟨h1, h2⟩, h3, h4⟩ := h
  go_enter Try.func56, Try.ntmps56
  go_wp2
  go_ret
  exact ⟨rfl, (Below.refl _ _).alloc (Nat.le_refl _) _⟩
/-- numbers two by two -/
def prU (a b : Nat → Int) : Nat → Int := fun j => if j % 2 = 0 then a (j / 2) else b (j / 2)
theorem pr_even (a b : Nat → Int) (k : Nat) : prU a b (2 * k) = a k := by
  unfold prU; rw [if_pos (by omega), show 2 * k / 2 = k by omega]
theorem pr_odd (a b : Nat → Int) (k : Nat) : prU a b (2 * k + 1) = b k := by
  unfold prU; rw [if_neg (by omega), show (2 * k + 1) / 2 = k by omega]
theorem tot_pr (a b : Nat → Int) : ∀ k, tot (prU a b) (2 * k) = tot (fun i => a i + b i) k
  | 0 => rfl
  | k + 1 => by
    rw [show 2 * (k + 1) = 2 * k + 1 + 1 by omega, tot, tot, tot, tot_pr a b k, pr_even, pr_odd]
    omega
theorem pr_push {a b : Nat → Int} {k : Nat} {x y : Int} (hx : a k = x) (hy : b k = y) : ∀ j, j < 2 * k + 2 → (if j = 2 * k then x else if j = 2 * k + 1 then y else prU a b j) = prU a b j := fun j hj => by
  by_cases e : j = 2 * k
  · rw [if_pos e, e, pr_even, hx]
  · by_cases e2 : j = 2 * k + 1
    · rw [if_neg e, if_pos e2, e2, pr_odd, hy]
    · rw [if_neg e, if_neg e2]
theorem sumis_pr {a b u : Nat → Int} {q : Nat} (h : ∀ i, i < q → Mon (a i) ∧ Mon (b i) ∧ a i + b i = u i) : (Mon (tot u q) → SumIs (prU a b) (2 * q) (tot u q) true) ∧ (¬ Mon (tot u q) → SumIs (prU a b) (2 * q) 0 false) := by
  have e : tot (prU a b) (2 * q) = tot u q := by rw [tot_pr]; exact tot_ext q fun i hi => (h i hi).2.2
  refine ⟨fun hm => .inl ⟨rfl, e.symm, by rw [e]; exact hm, fun j hj => ?_⟩, fun hm => .inr ⟨rfl, rfl, .inr (by rw [e]; exact hm)⟩⟩
  unfold prU
  split
  · exact (h _ (by omega)).1
  · exact (h _ (by omega)).2.1
theorem psum_own {w : World} {base n : Nat} {v : Value} {g : Nat → Int} {r : Int} {ok : Bool} (o : Own w 3 base v n g) (hn : n ≤ 1000000) (H : SumIs g n r ok) :
    Calls Try.prog 61 #[v] w fun e w' => e = .returned (.tuple #[.int .i64 r, .bool ok]) ∧ Below w.heap.size w w' := by
  rcases Nat.eq_zero_or_pos n with rfl | hp
  · obtain ⟨A, c, rfl, _⟩ := o.form
    obtain ⟨rfl, rfl⟩ : r = 0 ∧ ok = true := by
      rcases H with ⟨h1, h2, _⟩ | ⟨_, _, ⟨j, hj, _⟩ | h⟩
      · exact ⟨h2, h1⟩
      · omega
      · exact absurd (by unfold Mon; simp [tot]) h
    exact sum_none A c w
  · obtain ⟨b, c, rfl, h1, _, _, hr⟩ := o.some hp
    exact sum_some b 0 n c g r ok w hr.1 hr.hid hn h1 (Lib.hid H)
/-- two numbers more, at a step of a region that draws its order -/
theorem step_push_two {P : Program} {ops : Array Oper} {o : Oper} {a : Act} {K : Act → World → Prop} {Q : Exit → Act → World → Prop} {Z : Prop} {i : TypeInfo} {T E : TypeId} {w : World}
    (hgd : o.guard = none) (s x : Operand) (ho : o.op = .call { callee := .builtin .append, args := #[s, x], argTypes := #[T, T] })
    (ht : P.underlying T = some (.slice E)) (hi : P.info? E = some i) (hz : i.zero = some (.int .i64 0)) (hsize : i.size = 1) (hby : i.bytes = 8)
    (W : World) (base n X : Nat) (v : Value) (g : Nat → Int) (z z' : Int) (hs : a.eval s = v) (hx : a.eval x = .slice (some ⟨X, 0, none⟩) 2 2) (hc : w.cell? ⟨X, 0, none⟩ = some (.int .i64 z)) (hc' : w.cell? ⟨X, 1, none⟩ = some (.int .i64 z'))
    (hown : Own w E base v n g) (hn : n ≤ 1000000) (hW : Below base W w) (hb : base ≤ w.heap.size) (H : Nat) (hH : w.heap.size = H)
    (h : ∀ b c w', Own w' E base (.slice (some ⟨b, 0, none⟩) (n + 2) c) (n + 2) (fun j => if j = n then z else if j = n + 1 then z' else g j) → Below base W w' → w.grownBy w' v.ownBlock → (v.ownBlock = some b ∨ b = H) → K (a.put o.dst (.slice (some ⟨b, 0, none⟩) (n + 2) c)) w') :
    if Region.wanted o (yielded ops a.tmps) = true then Oper.wp P o a w K Q else Z := by
  refine step_append_lies _ hgd s x T ho base E i (.int .i64 0) 1 8 ht hi hz hsize hby rfl (by decide) v n _ hs hown ⟨X, 0, none⟩ 2 2 [.int .i64 z, .int .i64 z'] hx rfl ?_ (ints_oneCell .i64 [z, z']) (by decide) (by unfold maxLen; omega) (by omega) hb H hH ?_
  · intro j u hu
    match j, hu with
    | 0, hu => simp at hu; subst hu; rw [show (⟨X, 0, none⟩ : Addr).add 0 = ⟨X, 0, none⟩ by unfold Addr.add; split <;> simp_all]; exact hc
    | 1, hu => simp at hu; subst hu; rw [show (⟨X, 0, none⟩ : Addr).add 1 = ⟨X, 1, none⟩ by unfold Addr.add; split <;> simp_all]; exact hc'
  intro b c w' ho' hg hat _
  refine h b c w' ?_ (hW.grown hg hb (fun k hk => (World.ownsRow.lt hown k hk).1)) hg hat
  have e : ((List.range (n + 2)).map fun j => Value.int .i64 (if j = n then z else if j = n + 1 then z' else g j)) = ((List.range n).map fun j => Value.int .i64 (g j)) ++ [.int .i64 z, .int .i64 z'] := by
    rw [List.range_succ, List.range_succ, List.map_append, List.map_append, List.append_assoc]
    congr 1
    · refine List.map_congr_left fun j hj => ?_
      have hj' : j < n := by simpa using hj
      rw [if_neg (by omega), if_neg (by omega)]
    · simp
  unfold Own; rw [e]; exact ho'
set_option maxHeartbeats 8000000 in
set_option maxRecDepth 100000 in
/-- may each row, and its rates, be? -/
theorem pwright_any {w : World} {A U V : Option Addr} {q c k0 cu k1 cv : Nat} {f : Nat → Wy} {o z : Nat → Int} {ok : Bool} (h : AtR we 5 w A q f) (hu : At w U k0 o) (hv : At w V k1 z) (hq : q ≤ 1000000) (H : ok = true ↔ RArgs q f k0 o k1 z) :
    Calls Try.prog 72 #[.slice A q c, .slice U k0 cu, .slice V k1 cv] w fun e' w' => e' = .returned (.bool ok) ∧ Below w.heap.size w w' := by
  by_cases hk : k0 = q ∧ k1 = q
  · obtain ⟨rfl, rfl⟩ := hk
    obtain ⟨L, hL, h1, h2, hres⟩ : ∃ L, L ≤ k1 ∧ (∀ k, k < L → WayOk f o z k) ∧ (L < k1 → ¬ WayOk f o z L) ∧ ((L < k1 ∧ ok = false) ∨ (L = k1 ∧ ok = true)) := by
      rcases row_bad f o z k1 with h | ⟨i, h1, h2, h3⟩
      · exact ⟨k1, Nat.le_refl _, h, fun h => by omega, .inr ⟨rfl, H.2 ⟨rfl, rfl, h⟩⟩⟩
      · refine ⟨i, by omega, h3, fun _ => h2, .inl ⟨h1, ?_⟩⟩
        cases ok with
        | false => rfl
        | true => exact absurd ((H.1 rfl).2.2 i h1) h2
    have HR := Lib.hid h
    have HU := Lib.hid hu
    have HV := Lib.hid hv
    have H1 := Lib.hid h1
    have H2 := Lib.hid h2
    have HS := Lib.hid hres
    have ee : ((k1 : Int) != (k1 : Int)) = false := by simp
    clear h hu hv h1 h2 hres H
    go_enter Try.func72, Try.ntmps72
    go_wp2
    go_loopg [23] k1 (fun gh i wr => ∃ k : Nat, k ≤ L ∧ gh = k1 - k ∧ i = .int .i64 k ∧ Below w.heap.size w wr)
    case atStart => exact ⟨0, Nat.zero_le _, rfl, rfl, Below.refl _ _⟩
    case round =>
      obtain ⟨k, hk, hgk, rfl, hbw⟩ := hrel
      have HGK := Lib.hid hgk
      have HW := Lib.hid hbw
      have hz := hbw.size
      clear hgk hbw
      by_cases hlt : k < k1
      · obtain ⟨b, off, rfl, hb, c0, c1, c2, c3, c4⟩ := (HR.out.below HW.out).five hlt
        obtain ⟨bu, ou, rfl, hbu, hcu⟩ := (HU.out.below HW.out).some (show 0 < k1 by omega)
        obtain ⟨bv, ov, rfl, hbv, hcv⟩ := (HV.out.below HW.out).some (show 0 < k1 by omega)
        have d0 := hcu k hlt
        have d1 := hcv k hlt
        obtain ⟨wc, hwc⟩ : ∃ wc, (f k).c = wc := ⟨_, rfl⟩
        obtain ⟨wy, hwy⟩ : ∃ wy, (f k).y = wy := ⟨_, rfl⟩
        obtain ⟨a, ha⟩ : ∃ a, (f k).o = a := ⟨_, rfl⟩
        obtain ⟨a', ha'⟩ : ∃ a', (f k).k = a' := ⟨_, rfl⟩
        obtain ⟨wm, hwm⟩ : ∃ wm, (f k).m = wm := ⟨_, rfl⟩
        obtain ⟨y, hy⟩ : ∃ y, o k = y := ⟨_, rfl⟩
        obtain ⟨x, hx⟩ : ∃ x, z k = x := ⟨_, rfl⟩
        rw [hwc] at c0
        rw [hwy] at c1
        rw [ha] at c2
        rw [hwm] at c3
        rw [ha'] at c4
        rw [hy] at d0
        rw [hx] at d1
        have k0 : (0 : Int) ≤ (k : Int) := by omega
        have kk : (k : Int) < (k1 : Int) := by omega
        clear hcu hcv hwc hwy hwm
        by_cases hkL : k < L
        · obtain ⟨⟨hr1, hr2⟩, hma, hma'⟩ := H1.out k hkL
          rw [hy] at hr1
          rw [hx] at hr2
          rw [ha] at hma
          rw [ha'] at hma'
          unfold Mon at hma hma'
          unfold RtOk at hr1 hr2
          have HMA := Lib.hid hma
          have HMA' := Lib.hid hma'
          have HR1 := Lib.hid hr1
          have HR2 := Lib.hid hr2
          clear hma hma' hr1 hr2 ha ha' hx hy
          go_wp2_with (first | (go_at_call 19; (with_reducible refine (right_yes _ _ HR1.out.1 HR1.out.2).mono ?_); rintro e w' ⟨rfl, rfl⟩) | (go_at_call 19; (with_reducible refine (right_yes _ _ HR2.out.1 HR2.out.2).mono ?_); rintro e w' ⟨rfl, rfl⟩) | (go_at_call 20; (with_reducible refine (money_yes _ _ HMA.out.1 HMA.out.2).mono ?_); rintro e w' ⟨rfl, rfl⟩) | (go_at_call 20; (with_reducible refine (money_yes _ _ HMA'.out.1 HMA'.out.2).mono ?_); rintro e w' ⟨rfl, rfl⟩))
          go_roundg (k1 - (k + 1))
          case measure => have := HGK.out; omega
          case rel => exact ⟨k + 1, by omega, rfl, by go_num, HW.out.alloc hz _⟩
        · obtain rfl : k = L := by omega
          obtain rfl : ok = false := by rcases HS.out with ⟨_, h⟩ | ⟨h, _⟩; exact h; omega
          have hb0 := H2.out hlt
          clear hkL HS
          rcases (show (a < -100000000000 ∨ 100000000000 < a) ∨ (Mon a ∧ (a' < -100000000000 ∨ 100000000000 < a')) ∨ (Mon a ∧ Mon a' ∧ (y < 0 ∨ 1000000 < y)) ∨ (Mon a ∧ Mon a' ∧ RtOk y ∧ (x < 0 ∨ 1000000 < x)) by
              unfold WayOk RtOk Mon at hb0
              rw [ha, ha', hy, hx] at hb0
              unfold RtOk Mon
              omega) with q1 | ⟨q1, q2⟩ | ⟨q1, q2, q3⟩ | ⟨q1, q2, q3, q4⟩
          · have Q1 := Lib.hid q1
            clear hb0 q1 ha ha' hy hx
            go_wp2_with (first | (go_at_call 20; (with_reducible refine (money_no _ _ Q1.out).mono ?_); rintro e w' ⟨rfl, rfl⟩))
            go_ret
            exact ⟨rfl, HW.out.alloc hz _⟩
          · unfold Mon at q1
            have Q1 := Lib.hid q1
            have Q2 := Lib.hid q2
            clear hb0 q1 q2 ha ha' hy hx
            go_wp2_with (first | (go_at_call 20; (with_reducible refine (money_yes _ _ Q1.out.1 Q1.out.2).mono ?_); rintro e w' ⟨rfl, rfl⟩) | (go_at_call 20; (with_reducible refine (money_no _ _ Q2.out).mono ?_); rintro e w' ⟨rfl, rfl⟩))
            go_ret
            exact ⟨rfl, HW.out.alloc hz _⟩
          · unfold Mon at q1 q2
            have Q1 := Lib.hid q1
            have Q2 := Lib.hid q2
            have Q3 := Lib.hid q3
            clear hb0 q1 q2 q3 ha ha' hy hx
            go_wp2_with (first | (go_at_call 20; (with_reducible refine (money_yes _ _ Q1.out.1 Q1.out.2).mono ?_); rintro e w' ⟨rfl, rfl⟩) | (go_at_call 20; (with_reducible refine (money_yes _ _ Q2.out.1 Q2.out.2).mono ?_); rintro e w' ⟨rfl, rfl⟩) | (go_at_call 19; (with_reducible refine (right_no _ _ Q3.out).mono ?_); rintro e w' ⟨rfl, rfl⟩))
            go_ret
            exact ⟨rfl, HW.out.alloc hz _⟩
          · unfold Mon at q1 q2
            unfold RtOk at q3
            have Q1 := Lib.hid q1
            have Q2 := Lib.hid q2
            have Q3 := Lib.hid q3
            have Q4 := Lib.hid q4
            clear hb0 q1 q2 q3 q4 ha ha' hy hx
            go_wp2_with (first | (go_at_call 20; (with_reducible refine (money_yes _ _ Q1.out.1 Q1.out.2).mono ?_); rintro e w' ⟨rfl, rfl⟩) | (go_at_call 20; (with_reducible refine (money_yes _ _ Q2.out.1 Q2.out.2).mono ?_); rintro e w' ⟨rfl, rfl⟩) | (go_at_call 19; (with_reducible refine (right_yes _ _ Q3.out.1 Q3.out.2).mono ?_); rintro e w' ⟨rfl, rfl⟩) | (go_at_call 19; (with_reducible refine (right_no _ _ Q4.out).mono ?_); rintro e w' ⟨rfl, rfl⟩))
            go_ret
            exact ⟨rfl, HW.out.alloc hz _⟩
      · obtain rfl : k = k1 := by omega
        obtain rfl : L = k := by omega
        obtain rfl : ok = true := by rcases HS.out with ⟨h, _⟩ | ⟨_, h⟩; omega; exact h
        go_wp2
        go_ret
        exact ⟨rfl, HW.out⟩
  · obtain rfl : ok = false := by
      cases ok with
      | false => rfl
      | true => exact absurd ⟨(H.1 rfl).1, (H.1 rfl).2.1⟩ hk
    clear H h hu hv
    rcases (show ((k0 : Int) != (q : Int)) = true ∨ (((k0 : Int) != (q : Int)) = false ∧ ((k1 : Int) != (q : Int)) = true) by
      by_cases q : k0 = q
      · exact .inr ⟨by simp [q], by simp; omega⟩
      · exact .inl (by simp; omega)) with q1 | ⟨q1, q2⟩
    all_goals
      clear hk
      go_enter Try.func72, Try.ntmps72
      go_wp2
      go_ret
      exact ⟨rfl, Below.refl _ _⟩
set_option maxHeartbeats 8000000 in
set_option maxRecDepth 100000 in
theorem prem_any {w : World} {A A' U V : Option Addr} {n c n' c' k0 cu k1 cv q : Nat} {g g' : Nat → Bk} {S S' : Int → Int → Int} {o z : Nat → Int} {f : Nat → Wy} (h : AtR be 3 w A n g) (h' : AtR be 3 w A' n' g') (iv : BIs S n g) (iv' : BIs S' n' g') (hn : n ≤ 1000) (hn' : n' ≤ 1000)
    (hc : n ≤ c ∧ c ≤ maxLen) (hc' : n' ≤ c' ∧ c' ≤ maxLen) (hu : At w U k0 o) (hv : At w V k1 z) (_hcu : k0 ≤ cu ∧ cu ≤ maxLen) (_hcv : k1 ≤ cv ∧ cv ≤ maxLen) (hf : FIw S S' q f) {m r e : Int} (H : RmIs q f k0 o k1 z m r e) :
    Calls Try.prog 52 #[.slice A n c, .slice A' n' c', .slice U k0 cu, .slice V k1 cv] w fun e' w' => e' = .returned (.tuple #[.agg #[.int .i64 m, .int .i64 r], .int .i64 e]) ∧ Below w.heap.size w w' := by
  have CF := Lib.hid fun w5 (k : Below w.heap.size w w5) => pfwd_w (c := c) (c' := c') (h.below k) (h'.below k) iv iv' hn hn' hc hc'
  have HU := Lib.hid hu
  have HV := Lib.hid hv
  have HF := Lib.hid hf
  have hq9 := hf.le
  obtain ⟨i0, hi, hz0, hz1, hz2⟩ := info_parts int_info
  have R0 := Lib.hid (head0 w #[.int .i64 0, .int .i64 0] 42)
  have L0 := Lib.hid ((Below.refl w.heap.size w).alloc (Nat.le_refl _) (.cells #[.int .i64 0, .int .i64 0] 42))
  have HH := Lib.hid H
  clear h h' iv iv' hu hv hf H hn hn' hc hc'
  go_enter Try.func52, Try.ntmps52
  go_wp2_with fail
  refine (CF.out _ L0.out).mono ?_
  rintro e' w1 ⟨A1, q', c1, f', rfl, ho, hf', hb1⟩
  obtain ⟨rfl, hef⟩ := hf'.uniq HF.out
  obtain ⟨A2, c2, e2, hc2, hm2, _, ha2⟩ := ho.at we_len
  injection e2 with e3 _ e4
  subst e3 e4
  have HA1 := Lib.hid (ha2.ext hef)
  have R1 := Lib.hid (R0.out.below hb1)
  have L1 := Lib.hid (L0.out.trans (hb1.mono L0.out.size))
  clear ho hf' hef ha2 hb1 CF R0 L0 HF
  by_cases hR : RArgs q' f k0 o k1 z
  · have CR := Lib.hid (pwright_any (ok := true) (c := c1) (cu := cu) (cv := cv) HA1.out (HU.out.below L1.out) (HV.out.below L1.out) (by omega) (by simp [hR]))
    obtain ⟨rfl, rfl, hway⟩ := hR
    obtain ⟨hres⟩ : Nonempty ((¬ (Mon (tot (mvU f z) k1) ∧ Mon (tot (rtU f o z) k1)) ∧ m = 0 ∧ r = 0 ∧ e = 6) ∨ ((Mon (tot (mvU f z) k1) ∧ Mon (tot (rtU f o z) k1)) ∧ m = tot (mvU f z) k1 ∧ r = tot (rtU f o z) k1 ∧ e = 0)) := by
      rcases HH.out with ⟨h, _⟩ | ⟨_, h⟩ | ⟨_, h⟩
      · exact absurd ⟨rfl, rfl, hway⟩ h
      · exact ⟨.inl h⟩
      · exact ⟨.inr h⟩
    have HW := Lib.hid hway
    have HRS := Lib.hid hres
    clear hway hres HH
    obtain ⟨mA, hmA⟩ : ∃ g : Nat → Int, g = fun i => rof (f i).k (z i) := ⟨_, rfl⟩
    obtain ⟨mB, hmB⟩ : ∃ g : Nat → Int, g = fun i => -rof (f i).o (z i) := ⟨_, rfl⟩
    obtain ⟨rA, hrA⟩ : ∃ g : Nat → Int, g = fun i => rof (f i).o (z i) := ⟨_, rfl⟩
    obtain ⟨rB, hrB⟩ : ∃ g : Nat → Int, g = fun i => -rof (f i).o (o i) := ⟨_, rfl⟩
    have EA := Lib.hid hmA
    have EB := Lib.hid hmB
    have EC := Lib.hid hrA
    have ED := Lib.hid hrB
    clear hmA hmB hrA hrB
    go_wp2_with (go_at_call 72; (with_reducible refine (CR.out).mono ?_); rintro e w2 ⟨rfl, hb2⟩)
    have A2 := Lib.hid (HA1.out.below hb2)
    have R2 := Lib.hid (R1.out.below hb2)
    have L2 := Lib.hid (L1.out.trans (hb2.mono L1.out.size))
    have Z2 := Lib.hid (show w.heap.size < w2.heap.size by have := R1.out.lt; have := hb2.size; omega)
    have U2 := Lib.hid (HU.out.below L2.out)
    have V2 := Lib.hid (HV.out.below L2.out)
    clear hb2 R1 L1 HA1 HU HV CR
    go_loopg [11, 12, 31] k1 (fun gh s11 s12 i wr => ∃ k : Nat, k ≤ k1 ∧ gh = k1 - k ∧ i = .int .i64 k ∧ Own wr 3 w2.heap.size s11 (2 * k) (prU mA mB) ∧ Own wr 3 w2.heap.size s12 (2 * k) (prU rA rB) ∧ Apart s11 s12 ∧ Below w2.heap.size w2 wr)
    case atStart => exact ⟨0, Nat.zero_le _, rfl, rfl, Own.nil _ _ _ _, Own.nil _ _ _ _, Apart.nil _, Below.refl _ _⟩
    case round =>
      obtain ⟨k, hk, hgk, rfl, ho1, ho2, hap, hbw⟩ := hrel
      have HGK := Lib.hid hgk
      have HBW := Lib.hid hbw
      have O1 := Lib.hid ho1
      have O2 := Lib.hid ho2
      have AP := Lib.hid hap
      have hz := hbw.size
      clear hgk hbw ho1 ho2 hap
      by_cases hlt : k < k1
      · obtain ⟨b, off, rfl, hb, c0, c1, c2, c3, c4⟩ := (A2.out.below HBW.out).five hlt
        obtain ⟨bu, ou, rfl, hbu, hcu⟩ := U2.out.some (show 0 < k1 by omega)
        obtain ⟨bv, ov, rfl, hbv, hcv⟩ := V2.out.some (show 0 < k1 by omega)
        have d0 := (HBW.out.cell (p := ⟨bu, ou + k, none⟩) hbu).trans (hcu k hlt)
        have d1 := (HBW.out.cell (p := ⟨bv, ov + k, none⟩) hbv).trans (hcv k hlt)
        obtain ⟨wc, hwc⟩ : ∃ wc, (f k).c = wc := ⟨_, rfl⟩
        obtain ⟨wy, hwy⟩ : ∃ wy, (f k).y = wy := ⟨_, rfl⟩
        obtain ⟨a, ha⟩ : ∃ a, (f k).o = a := ⟨_, rfl⟩
        obtain ⟨a', ha'⟩ : ∃ a', (f k).k = a' := ⟨_, rfl⟩
        obtain ⟨wm, hwm⟩ : ∃ wm, (f k).m = wm := ⟨_, rfl⟩
        obtain ⟨y, hy⟩ : ∃ y, o k = y := ⟨_, rfl⟩
        obtain ⟨x, hx⟩ : ∃ x, z k = x := ⟨_, rfl⟩
        rw [hwc] at c0
        rw [hwy] at c1
        rw [ha] at c2
        rw [hwm] at c3
        rw [ha'] at c4
        rw [hy] at d0
        rw [hx] at d1
        have k0 : (0 : Int) ≤ (k : Int) := by omega
        have kk : (k : Int) < (k1 : Int) := by omega
        clear hcu hcv hwc hwy hwm
        obtain ⟨⟨hr1, hr2⟩, hma, hma'⟩ := HW.out k hlt
        rw [hy] at hr1
        rw [hx] at hr2
        rw [ha] at hma
        rw [ha'] at hma'
        have pm := rof_mon hma hr2
        have sm := rof_mon hma hr1
        have pm' := rof_mon hma' hr2
        obtain ⟨p, hp⟩ : ∃ p, rof a x = p := ⟨_, rfl⟩
        obtain ⟨s, hs⟩ : ∃ s, rof a y = s := ⟨_, rfl⟩
        obtain ⟨p', hp'⟩ : ∃ p', rof a' x = p' := ⟨_, rfl⟩
        rw [hp] at pm
        rw [hs] at sm
        rw [hp'] at pm'
        have PA := Lib.hid (show mA k = p' by rw [EA.out]; show rof (f k).k (z k) = p'; rw [ha', hx, hp'])
        have PB := Lib.hid (show mB k = -p by rw [EB.out]; show -rof (f k).o (z k) = -p; rw [ha, hx, hp])
        have PC := Lib.hid (show rA k = p by rw [EC.out]; show rof (f k).o (z k) = p; rw [ha, hx, hp])
        have PD := Lib.hid (show rB k = -s by rw [ED.out]; show -rof (f k).o (o k) = -s; rw [ha, hy, hs])
        have HP := Lib.hid hp
        have HS := Lib.hid hs
        have HP' := Lib.hid hp'
        unfold Mon at pm sm pm' hma hma'
        unfold RtOk at hr1 hr2
        have a1 : -400000000000 ≤ a ∧ a ≤ 400000000000 := by omega
        have a2 : -400000000000 ≤ a' ∧ a' ≤ 400000000000 := by omega
        have z1 : 0 ≤ y ∧ y ≤ 10000000 := by omega
        have z2 : 0 ≤ x ∧ x ≤ 10000000 := by omega
        have wp1 : IntKind.i64.wrap (-p) = -p := IntWalk.i64_in _ (by omega)
        have wp2 : IntKind.i64.wrap (-s) = -s := IntWalk.i64_in _ (by omega)
        have hba := (Below.refl wr.heap.size wr).alloc (Nat.le_refl _) (.cells #[.int .i64 wc, .int .i64 wy, .int .i64 a, .int .i64 wm, .int .i64 a'] 92)
        have RA := rec_lit wr [.int .i64 wc, .int .i64 wy, .int .i64 a, .int .i64 wm, .int .i64 a'] 92 wr.heap.size rfl
        obtain ⟨wa, hwa⟩ : ∃ wa, wr.alloc (.cells #[.int .i64 wc, .int .i64 wy, .int .i64 a, .int .i64 wm, .int .i64 a'] 92) = wa := ⟨_, rfl⟩
        have RA2 : wa.cell? ⟨wr.heap.size, 2, none⟩ = some (.int .i64 a) := by rw [← hwa]; exact RA 2 _ rfl
        have RA4 : wa.cell? ⟨wr.heap.size, 4, none⟩ = some (.int .i64 a') := by rw [← hwa]; exact RA 4 _ rfl
        rw [hwa] at hba
        have HWA := Lib.hid hwa
        have BA := Lib.hid hba
        have D0 := Lib.hid (cell_keep d0 hba)
        have D1 := Lib.hid (cell_keep d1 hba)
        have E2 := Lib.hid RA2
        have E4 := Lib.hid RA4
        have BU := Lib.hid hbu
        have BV := Lib.hid hbv
        clear hp hs hp' hma hma' hr1 hr2 hwa hba RA RA2 RA4 ha ha' hx hy pm sm pm'
        go_wp2
        rw [HWA.out]
        clear HWA c0 c1 c2 c3 c4 d0 d1 hb hbu hbv
        have scd : wa.drew.cell? ⟨wr.heap.size, 2, none⟩ = some (.int .i64 a) ∧ wa.drew.cell? ⟨bv, ov + k, none⟩ = some (.int .i64 x) := ⟨E2.out, D1.out⟩
        refine wp_region_noPanic ?_
        refine AnyTill.begin (C := fun w' => w'.cell? ⟨wr.heap.size, 2, none⟩ = some (.int .i64 a) ∧ w'.cell? ⟨bv, ov + k, none⟩ = some (.int .i64 x)) (q := 99) (by kernel_rfl) ?_
        refine AnyTill.take (i := 0) (v := ?_) (by simp only [List.getElem?_toArray, List.getElem?_cons_zero]; rfl) (by kernel_rfl) (by kernel_rfl) (by kernel_rfl) (by kernel_rfl) (fun _ _ _ h => h) (Or.inl ⟨by rfl, ?_⟩) scd ?_
        rotate_left
        · intro w' hw'; (try dsimp only at hw'); go_simp <;> with_reducible rfl
        try simp only [Act.put, List.setIfInBounds_toArray, List.set_cons_zero, List.set_cons_succ]
        refine AnyTill.take (i := 1) (v := ?_) (by simp only [List.getElem?_toArray, List.getElem?_cons_succ, List.getElem?_cons_zero]; rfl) (by kernel_rfl) (by kernel_rfl) (by kernel_rfl) (by kernel_rfl) (fun _ _ _ h => h) (Or.inl ⟨by rfl, ?_⟩) scd ?_
        rotate_left
        · intro w' hw'; (try dsimp only at hw'); go_simp <;> with_reducible rfl
        try simp only [Act.put, List.setIfInBounds_toArray, List.set_cons_zero, List.set_cons_succ]
        refine AnyTill.take (i := 2) (v := ?_) (by simp only [List.getElem?_toArray, List.getElem?_cons_succ, List.getElem?_cons_zero]; rfl) (by kernel_rfl) (by kernel_rfl) (by kernel_rfl) (by kernel_rfl) (fun _ _ _ h => h) (Or.inl ⟨by rfl, ?_⟩) scd ?_
        rotate_left
        · intro w' hw'; (try dsimp only at hw'); go_simp <;> with_reducible rfl
        try simp only [Act.put, List.setIfInBounds_toArray, List.set_cons_zero, List.set_cons_succ]
        refine AnyTill.take (i := 3) (v := ?_) (by simp only [List.getElem?_toArray, List.getElem?_cons_succ, List.getElem?_cons_zero]; rfl) (by kernel_rfl) (by kernel_rfl) (by kernel_rfl) (by kernel_rfl) (fun _ _ _ h => h) (Or.inl ⟨by rfl, ?_⟩) scd ?_
        rotate_left
        · intro w' hw'; (try dsimp only at hw'); go_simp <;> with_reducible rfl
        try simp only [Act.put, List.setIfInBounds_toArray, List.set_cons_zero, List.set_cons_succ]
        refine AnyTill.take (i := 4) (v := ?_) (by simp only [List.getElem?_toArray, List.getElem?_cons_succ, List.getElem?_cons_zero]; rfl) (by kernel_rfl) (by kernel_rfl) (by kernel_rfl) (by kernel_rfl) (fun _ _ _ h => h) (Or.inl ⟨by rfl, ?_⟩) scd ?_
        rotate_left
        · intro w' hw'; (try dsimp only at hw'); go_simp <;> with_reducible rfl
        try simp only [Act.put, List.setIfInBounds_toArray, List.set_cons_zero, List.set_cons_succ]
        refine AnyTill.take (i := 5) (v := ?_) (by simp only [List.getElem?_toArray, List.getElem?_cons_succ, List.getElem?_cons_zero]; rfl) (by kernel_rfl) (by kernel_rfl) (by kernel_rfl) (by kernel_rfl) (fun _ _ _ h => h) (Or.inl ⟨by rfl, ?_⟩) scd ?_
        rotate_left
        · intro w' hw'; (try dsimp only at hw'); go_simp <;> with_reducible rfl
        try simp only [Act.put, List.setIfInBounds_toArray, List.set_cons_zero, List.set_cons_succ]
        refine AnyTill.takeC (i := 6) (v := .int .i64 p) (by simp only [List.getElem?_toArray, List.getElem?_cons_succ, List.getElem?_cons_zero]; rfl) (by kernel_rfl) (by kernel_rfl) (by kernel_rfl) (by kernel_rfl) (fun _ _ _ h => h) ⟨by rfl, 73, #[.int .i64 a, .int .i64 x], fun w' hw' => ?_, fun w' hw' => pwshr_at a x p w' a1 z2 HP⟩ scd ?_
        · (try dsimp only at hw'); go_simp <;> with_reducible rfl
        try simp only [Act.put, List.setIfInBounds_toArray, List.set_cons_zero, List.set_cons_succ]
        refine AnyTill.take (i := 7) (v := ?_) (by simp only [List.getElem?_toArray, List.getElem?_cons_succ, List.getElem?_cons_zero]; rfl) (by kernel_rfl) (by kernel_rfl) (by kernel_rfl) (by kernel_rfl) (fun _ _ _ h => h) (Or.inl ⟨by rfl, ?_⟩) scd ?_
        rotate_left
        · intro w' hw'; (try dsimp only at hw'); go_simp <;> with_reducible rfl
        try simp only [Act.put, List.setIfInBounds_toArray, List.set_cons_zero, List.set_cons_succ]
        refine AnyTill.done (by kernel_rfl) ?_ _
        refine NoPanic.normal ?_
        clear scd
        obtain ⟨wb, hwb⟩ : ∃ wb, wa.drew = wb := ⟨_, rfl⟩
        have BB : Hid (Below wr.heap.size wr wb) := Lib.hid (by rw [← hwb]; exact BA.out.drew)
        have scb : wb.drew.cell? ⟨wr.heap.size, 4, none⟩ = some (.int .i64 a') ∧ wb.drew.cell? ⟨bv, ov + k, none⟩ = some (.int .i64 x) := by rw [← hwb]; exact ⟨E4.out, D1.out⟩
        have scc : wb.drew.cell? ⟨wr.heap.size, 2, none⟩ = some (.int .i64 a) ∧ wb.drew.cell? ⟨bu, ou + k, none⟩ = some (.int .i64 y) := by rw [← hwb]; exact ⟨E2.out, D0.out⟩
        have SCC := Lib.hid scc
        rw [hwb]
        clear scc hwb BA E2 E4 D0 D1
        go_wp2
        refine wp_region_noPanic ?_
        refine AnyTill.begin (C := fun w' => w'.cell? ⟨wr.heap.size, 4, none⟩ = some (.int .i64 a') ∧ w'.cell? ⟨bv, ov + k, none⟩ = some (.int .i64 x)) (q := 99) (by kernel_rfl) ?_
        refine AnyTill.take (i := 0) (v := ?_) (by simp only [List.getElem?_toArray, List.getElem?_cons_zero]; rfl) (by kernel_rfl) (by kernel_rfl) (by kernel_rfl) (by kernel_rfl) (fun _ _ _ h => h) (Or.inl ⟨by rfl, ?_⟩) scb ?_
        rotate_left
        · intro w' hw'; (try dsimp only at hw'); go_simp <;> with_reducible rfl
        try simp only [Act.put, List.setIfInBounds_toArray, List.set_cons_zero, List.set_cons_succ]
        refine AnyTill.take (i := 1) (v := ?_) (by simp only [List.getElem?_toArray, List.getElem?_cons_succ, List.getElem?_cons_zero]; rfl) (by kernel_rfl) (by kernel_rfl) (by kernel_rfl) (by kernel_rfl) (fun _ _ _ h => h) (Or.inl ⟨by rfl, ?_⟩) scb ?_
        rotate_left
        · intro w' hw'; (try dsimp only at hw'); go_simp <;> with_reducible rfl
        try simp only [Act.put, List.setIfInBounds_toArray, List.set_cons_zero, List.set_cons_succ]
        refine AnyTill.take (i := 2) (v := ?_) (by simp only [List.getElem?_toArray, List.getElem?_cons_succ, List.getElem?_cons_zero]; rfl) (by kernel_rfl) (by kernel_rfl) (by kernel_rfl) (by kernel_rfl) (fun _ _ _ h => h) (Or.inl ⟨by rfl, ?_⟩) scb ?_
        rotate_left
        · intro w' hw'; (try dsimp only at hw'); go_simp <;> with_reducible rfl
        try simp only [Act.put, List.setIfInBounds_toArray, List.set_cons_zero, List.set_cons_succ]
        refine AnyTill.take (i := 3) (v := ?_) (by simp only [List.getElem?_toArray, List.getElem?_cons_succ, List.getElem?_cons_zero]; rfl) (by kernel_rfl) (by kernel_rfl) (by kernel_rfl) (by kernel_rfl) (fun _ _ _ h => h) (Or.inl ⟨by rfl, ?_⟩) scb ?_
        rotate_left
        · intro w' hw'; (try dsimp only at hw'); go_simp <;> with_reducible rfl
        try simp only [Act.put, List.setIfInBounds_toArray, List.set_cons_zero, List.set_cons_succ]
        refine AnyTill.take (i := 4) (v := ?_) (by simp only [List.getElem?_toArray, List.getElem?_cons_succ, List.getElem?_cons_zero]; rfl) (by kernel_rfl) (by kernel_rfl) (by kernel_rfl) (by kernel_rfl) (fun _ _ _ h => h) (Or.inl ⟨by rfl, ?_⟩) scb ?_
        rotate_left
        · intro w' hw'; (try dsimp only at hw'); go_simp <;> with_reducible rfl
        try simp only [Act.put, List.setIfInBounds_toArray, List.set_cons_zero, List.set_cons_succ]
        refine AnyTill.take (i := 5) (v := ?_) (by simp only [List.getElem?_toArray, List.getElem?_cons_succ, List.getElem?_cons_zero]; rfl) (by kernel_rfl) (by kernel_rfl) (by kernel_rfl) (by kernel_rfl) (fun _ _ _ h => h) (Or.inl ⟨by rfl, ?_⟩) scb ?_
        rotate_left
        · intro w' hw'; (try dsimp only at hw'); go_simp <;> with_reducible rfl
        try simp only [Act.put, List.setIfInBounds_toArray, List.set_cons_zero, List.set_cons_succ]
        refine AnyTill.take (i := 6) (v := ?_) (by simp only [List.getElem?_toArray, List.getElem?_cons_succ, List.getElem?_cons_zero]; rfl) (by kernel_rfl) (by kernel_rfl) (by kernel_rfl) (by kernel_rfl) (fun _ _ _ h => h) (Or.inl ⟨by rfl, ?_⟩) scb ?_
        rotate_left
        · intro w' hw'; (try dsimp only at hw'); go_simp <;> with_reducible rfl
        try simp only [Act.put, List.setIfInBounds_toArray, List.set_cons_zero, List.set_cons_succ]
        refine AnyTill.takeC (i := 7) (v := .int .i64 p') (by simp only [List.getElem?_toArray, List.getElem?_cons_succ, List.getElem?_cons_zero]; rfl) (by kernel_rfl) (by kernel_rfl) (by kernel_rfl) (by kernel_rfl) (fun _ _ _ h => h) ⟨by rfl, 73, #[.int .i64 a', .int .i64 x], fun w' hw' => ?_, fun w' hw' => pwshr_at a' x p' w' a2 z2 HP'⟩ scb ?_
        · (try dsimp only at hw'); go_simp <;> with_reducible rfl
        try simp only [Act.put, List.setIfInBounds_toArray, List.set_cons_zero, List.set_cons_succ]
        refine AnyTill.take (i := 8) (v := ?_) (by simp only [List.getElem?_toArray, List.getElem?_cons_succ, List.getElem?_cons_zero]; rfl) (by kernel_rfl) (by kernel_rfl) (by kernel_rfl) (by kernel_rfl) (fun _ _ _ h => h) (Or.inl ⟨by rfl, ?_⟩) scb ?_
        rotate_left
        · intro w' hw'; (try dsimp only at hw'); go_simp <;> with_reducible rfl
        try simp only [Act.put, List.setIfInBounds_toArray, List.set_cons_zero, List.set_cons_succ]
        refine AnyTill.take (i := 9) (v := ?_) (by simp only [List.getElem?_toArray, List.getElem?_cons_succ, List.getElem?_cons_zero]; rfl) (by kernel_rfl) (by kernel_rfl) (by kernel_rfl) (by kernel_rfl) (fun _ _ _ h => h) (Or.inl ⟨by rfl, ?_⟩) scb ?_
        rotate_left
        · intro w' hw'; (try dsimp only at hw'); go_simp <;> with_reducible rfl
        try simp only [Act.put, List.setIfInBounds_toArray, List.set_cons_zero, List.set_cons_succ]
        have bl := (Below.refl wb.heap.size wb).alloc (Nat.le_refl _) (.cells #[.int .i64 p', .int .i64 (-p)] 3)
        have lt := rec_lit wb [.int .i64 p', .int .i64 (-p)] 3 wb.heap.size rfl
        obtain ⟨wl, hwl⟩ : ∃ wl, (wb.alloc (.cells #[.int .i64 p', .int .i64 (-p)] 3)).drew = wl := ⟨_, rfl⟩
        have bl2 : Below wb.heap.size wb wl := by rw [← hwl]; exact bl.drew
        have l0 : wl.cell? ⟨wb.heap.size, 0, none⟩ = some (.int .i64 p') := by rw [← hwl]; exact lt 0 _ rfl
        have l1 : wl.cell? ⟨wb.heap.size, 1, none⟩ = some (.int .i64 (-p)) := by rw [← hwl]; exact lt 1 _ rfl
        have sl : wl.cell? ⟨wr.heap.size, 4, none⟩ = some (.int .i64 a') ∧ wl.cell? ⟨bv, ov + k, none⟩ = some (.int .i64 x) := ⟨cell_keep (w := wb) scb.1 bl2, cell_keep (w := wb) scb.2 bl2⟩
        have sm : wl.cell? ⟨wr.heap.size, 2, none⟩ = some (.int .i64 a) ∧ wl.cell? ⟨bu, ou + k, none⟩ = some (.int .i64 y) := ⟨cell_keep (w := wb) SCC.out.1 bl2, cell_keep (w := wb) SCC.out.2 bl2⟩
        have BL : Hid (Below wr.heap.size wr wl) := Lib.hid (BB.out.trans (bl2.mono BB.out.size))
        have WL : Hid (Below w2.heap.size w2 wl) := Lib.hid (HBW.out.trans (BL.out.mono hz))
        have O1l := O1.out.below BL.out
        have O2l := O2.out.below BL.out
        clear bl lt bl2 BB SCC
        refine' AnyTill.one (i := 10) (o := _) (by kernel_rfl) ?ho10ma (fun K' hK => ?hh10ma)
        case ho10ma => (simp only [List.getElem?_toArray, List.getElem?_cons_succ, List.getElem?_cons_zero]; rfl)
        go_simp
        refine hK.out _ _ (.inr sl) ?_
        clear hK K' hwl
        try simp only [Act.put, List.setIfInBounds_toArray, List.set_cons_zero, List.set_cons_succ]
        refine' AnyTill.one (i := 11) (o := _) (by kernel_rfl) ?ho11mb (fun K' hK => ?hh11mb)
        case ho11mb => (simp only [List.getElem?_toArray, List.getElem?_cons_succ, List.getElem?_cons_zero]; rfl)
        refine step_push_two rfl (.tmp 43) (.tmp 53) rfl Try.underlying35 hi hz0 hz1 hz2 w2 w2.heap.size (2 * k) wb.heap.size _ _ p' (-p) rfl rfl l0 l1 O1l (by omega) WL.out (WL.out.size) wl.heap.size rfl ?_
        intro b3 c3 w3 o3 hW3 hg3 hat3
        have keep3 : ∀ bb oo vv, wl.cell? ⟨bb, oo, none⟩ = some vv → (bb = wr.heap.size ∨ bb < w2.heap.size) → w3.cell? ⟨bb, oo, none⟩ = some vv := fun bb oo vv h1 h2 => (hg3.cell_far ⟨bb, oo, none⟩ (World.block_lt_of_cell? _ _ h1) (fun e => by have := World.ownsRow.lt O1.out bb e.symm; omega)).trans h1
        have s3 : w3.cell? ⟨wr.heap.size, 4, none⟩ = some (.int .i64 a') ∧ w3.cell? ⟨bv, ov + k, none⟩ = some (.int .i64 x) := ⟨keep3 _ _ _ sl.1 (.inl rfl), keep3 _ _ _ sl.2 (.inr BV.out)⟩
        have t3 : w3.drew.cell? ⟨wr.heap.size, 2, none⟩ = some (.int .i64 a) ∧ w3.drew.cell? ⟨bu, ou + k, none⟩ = some (.int .i64 y) := ⟨keep3 _ _ _ sm.1 (.inl rfl), keep3 _ _ _ sm.2 (.inr BU.out)⟩
        have O3 := Lib.hid o3
        have W3 := Lib.hid hW3
        have P3 := O2l.beside hg3 AP.out.symm
        have AP3 := Lib.hid (AP.out.push O2l (n := 2 * k + 2) (c := c3) hat3 (Nat.le_refl _))
        refine hK.out _ _ (.inr s3) ?_
        clear hK K' o3 hW3 hg3 hat3 keep3 sl sm l0 l1 O1l O2l WL BL
        try simp only [Act.put, List.setIfInBounds_toArray, List.set_cons_zero, List.set_cons_succ]
        refine AnyTill.take (i := 12) (v := ?_) (by simp only [List.getElem?_toArray, List.getElem?_cons_succ, List.getElem?_cons_zero]; rfl) (by kernel_rfl) (by kernel_rfl) (by kernel_rfl) (by kernel_rfl) (fun _ _ _ h => h) (Or.inl ⟨by rfl, ?_⟩) s3 ?_
        rotate_left
        · intro w' hw'; (try dsimp only at hw'); go_simp <;> with_reducible rfl
        try simp only [Act.put, List.setIfInBounds_toArray, List.set_cons_zero, List.set_cons_succ]
        refine AnyTill.done (by kernel_rfl) ?_ _
        refine NoPanic.normal ?_
        clear s3 scb
        have bl := (Below.refl w3.heap.size w3).alloc (Nat.le_refl _) (.cells #[.int .i64 p, .int .i64 (-s)] 3)
        have lt := rec_lit w3 [.int .i64 p, .int .i64 (-s)] 3 w3.heap.size rfl
        obtain ⟨wl4, hwl4⟩ : ∃ wl, (w3.alloc (.cells #[.int .i64 p, .int .i64 (-s)] 3)).drew = wl := ⟨_, rfl⟩
        have bl2 : Below w3.heap.size w3 wl4 := by rw [← hwl4]; exact bl.drew
        have l0 : wl4.cell? ⟨w3.heap.size, 0, none⟩ = some (.int .i64 p) := by rw [← hwl4]; exact lt 0 _ rfl
        have l1 : wl4.cell? ⟨w3.heap.size, 1, none⟩ = some (.int .i64 (-s)) := by rw [← hwl4]; exact lt 1 _ rfl
        have L0 := Lib.hid l0
        have L1 := Lib.hid l1
        have t4 : wl4.cell? ⟨wr.heap.size, 2, none⟩ = some (.int .i64 a) ∧ wl4.cell? ⟨bu, ou + k, none⟩ = some (.int .i64 y) := ⟨cell_keep (w := w3) t3.1 bl2, cell_keep (w := w3) t3.2 bl2⟩
        have T4 := Lib.hid t4
        have W4 : Hid (Below w2.heap.size w2 wl4) := Lib.hid (W3.out.trans (bl2.mono W3.out.size))
        have O4 := Lib.hid (P3.below bl2)
        have O3b := Lib.hid (O3.out.below bl2)
        have HWL := Lib.hid hwl4
        have OX : Hid (∀ bb, u12.ownBlock = some bb → w2.heap.size ≤ bb ∧ bb < wr.heap.size) := Lib.hid fun bb hbb => World.ownsRow.lt O2.out bb hbb
        clear bl lt bl2 l0 l1 t4 hwl4 O1 O2 AP P3 O3 W3
        go_wp2
        refine wp_region_noPanic ?_
        refine AnyTill.begin (C := fun w' => w'.cell? ⟨wr.heap.size, 2, none⟩ = some (.int .i64 a) ∧ w'.cell? ⟨bu, ou + k, none⟩ = some (.int .i64 y)) (q := 99) (by kernel_rfl) ?_
        refine AnyTill.take (i := 0) (v := ?_) (by simp only [List.getElem?_toArray, List.getElem?_cons_zero]; rfl) (by kernel_rfl) (by kernel_rfl) (by kernel_rfl) (by kernel_rfl) (fun _ _ _ h => h) (Or.inl ⟨by rfl, ?_⟩) t3 ?_
        rotate_left
        · intro w' hw'; (try dsimp only at hw'); go_simp <;> with_reducible rfl
        try simp only [Act.put, List.setIfInBounds_toArray, List.set_cons_zero, List.set_cons_succ]
        refine AnyTill.take (i := 1) (v := ?_) (by simp only [List.getElem?_toArray, List.getElem?_cons_succ, List.getElem?_cons_zero]; rfl) (by kernel_rfl) (by kernel_rfl) (by kernel_rfl) (by kernel_rfl) (fun _ _ _ h => h) (Or.inl ⟨by rfl, ?_⟩) t3 ?_
        rotate_left
        · intro w' hw'; (try dsimp only at hw'); go_simp <;> with_reducible rfl
        try simp only [Act.put, List.setIfInBounds_toArray, List.set_cons_zero, List.set_cons_succ]
        refine AnyTill.take (i := 2) (v := ?_) (by simp only [List.getElem?_toArray, List.getElem?_cons_succ, List.getElem?_cons_zero]; rfl) (by kernel_rfl) (by kernel_rfl) (by kernel_rfl) (by kernel_rfl) (fun _ _ _ h => h) (Or.inl ⟨by rfl, ?_⟩) t3 ?_
        rotate_left
        · intro w' hw'; (try dsimp only at hw'); go_simp <;> with_reducible rfl
        try simp only [Act.put, List.setIfInBounds_toArray, List.set_cons_zero, List.set_cons_succ]
        refine AnyTill.take (i := 3) (v := ?_) (by simp only [List.getElem?_toArray, List.getElem?_cons_succ, List.getElem?_cons_zero]; rfl) (by kernel_rfl) (by kernel_rfl) (by kernel_rfl) (by kernel_rfl) (fun _ _ _ h => h) (Or.inl ⟨by rfl, ?_⟩) t3 ?_
        rotate_left
        · intro w' hw'; (try dsimp only at hw'); go_simp <;> with_reducible rfl
        try simp only [Act.put, List.setIfInBounds_toArray, List.set_cons_zero, List.set_cons_succ]
        refine AnyTill.take (i := 4) (v := ?_) (by simp only [List.getElem?_toArray, List.getElem?_cons_succ, List.getElem?_cons_zero]; rfl) (by kernel_rfl) (by kernel_rfl) (by kernel_rfl) (by kernel_rfl) (fun _ _ _ h => h) (Or.inl ⟨by rfl, ?_⟩) t3 ?_
        rotate_left
        · intro w' hw'; (try dsimp only at hw'); go_simp <;> with_reducible rfl
        try simp only [Act.put, List.setIfInBounds_toArray, List.set_cons_zero, List.set_cons_succ]
        refine AnyTill.take (i := 5) (v := ?_) (by simp only [List.getElem?_toArray, List.getElem?_cons_succ, List.getElem?_cons_zero]; rfl) (by kernel_rfl) (by kernel_rfl) (by kernel_rfl) (by kernel_rfl) (fun _ _ _ h => h) (Or.inl ⟨by rfl, ?_⟩) t3 ?_
        rotate_left
        · intro w' hw'; (try dsimp only at hw'); go_simp <;> with_reducible rfl
        try simp only [Act.put, List.setIfInBounds_toArray, List.set_cons_zero, List.set_cons_succ]
        refine AnyTill.take (i := 6) (v := ?_) (by simp only [List.getElem?_toArray, List.getElem?_cons_succ, List.getElem?_cons_zero]; rfl) (by kernel_rfl) (by kernel_rfl) (by kernel_rfl) (by kernel_rfl) (fun _ _ _ h => h) (Or.inl ⟨by rfl, ?_⟩) t3 ?_
        rotate_left
        · intro w' hw'; (try dsimp only at hw'); go_simp <;> with_reducible rfl
        try simp only [Act.put, List.setIfInBounds_toArray, List.set_cons_zero, List.set_cons_succ]
        refine AnyTill.take (i := 7) (v := ?_) (by simp only [List.getElem?_toArray, List.getElem?_cons_succ, List.getElem?_cons_zero]; rfl) (by kernel_rfl) (by kernel_rfl) (by kernel_rfl) (by kernel_rfl) (fun _ _ _ h => h) (Or.inl ⟨by rfl, ?_⟩) t3 ?_
        rotate_left
        · intro w' hw'; (try dsimp only at hw'); go_simp <;> with_reducible rfl
        try simp only [Act.put, List.setIfInBounds_toArray, List.set_cons_zero, List.set_cons_succ]
        refine AnyTill.takeC (i := 8) (v := .int .i64 s) (by simp only [List.getElem?_toArray, List.getElem?_cons_succ, List.getElem?_cons_zero]; rfl) (by kernel_rfl) (by kernel_rfl) (by kernel_rfl) (by kernel_rfl) (fun _ _ _ h => h) ⟨by rfl, 73, #[.int .i64 a, .int .i64 y], fun w' hw' => ?_, fun w' hw' => pwshr_at a y s w' a1 z1 HS⟩ t3 ?_
        · (try dsimp only at hw'); go_simp <;> with_reducible rfl
        try simp only [Act.put, List.setIfInBounds_toArray, List.set_cons_zero, List.set_cons_succ]
        refine AnyTill.take (i := 9) (v := ?_) (by simp only [List.getElem?_toArray, List.getElem?_cons_succ, List.getElem?_cons_zero]; rfl) (by kernel_rfl) (by kernel_rfl) (by kernel_rfl) (by kernel_rfl) (fun _ _ _ h => h) (Or.inl ⟨by rfl, ?_⟩) t3 ?_
        rotate_left
        · intro w' hw'; (try dsimp only at hw'); go_simp <;> with_reducible rfl
        try simp only [Act.put, List.setIfInBounds_toArray, List.set_cons_zero, List.set_cons_succ]
        refine' AnyTill.one (i := 10) (o := _) (by kernel_rfl) ?ho10mc (fun K' hK => ?hh10mc)
        case ho10mc => (simp only [List.getElem?_toArray, List.getElem?_cons_succ, List.getElem?_cons_zero]; rfl)
        go_simp
        rw [HWL.out]
        refine hK.out _ _ (.inr T4.out) ?_
        clear hK K' HWL
        try simp only [Act.put, List.setIfInBounds_toArray, List.set_cons_zero, List.set_cons_succ]
        refine' AnyTill.one (i := 11) (o := _) (by kernel_rfl) ?ho11md (fun K' hK => ?hh11md)
        case ho11md => (simp only [List.getElem?_toArray, List.getElem?_cons_succ, List.getElem?_cons_zero]; rfl)
        refine step_push_two rfl (.tmp 55) (.tmp 65) rfl Try.underlying35 hi hz0 hz1 hz2 w2 w2.heap.size (2 * k) w3.heap.size _ _ p (-s) rfl rfl L0.out L1.out O4.out (by omega) W4.out W4.out.size wl4.heap.size rfl ?_
        intro b4 c4 w4 o4 hW4 hg4 hat4
        have keep4 : ∀ bb oo vv, wl4.cell? ⟨bb, oo, none⟩ = some vv → (bb = wr.heap.size ∨ bb < w2.heap.size) → w4.cell? ⟨bb, oo, none⟩ = some vv := fun bb oo vv h1 h2 => (hg4.cell_far ⟨bb, oo, none⟩ (World.block_lt_of_cell? _ _ h1) (fun e => by have := OX.out bb e.symm; omega)).trans h1
        have s4 : w4.cell? ⟨wr.heap.size, 2, none⟩ = some (.int .i64 a) ∧ w4.cell? ⟨bu, ou + k, none⟩ = some (.int .i64 y) := ⟨keep4 _ _ _ T4.out.1 (.inl rfl), keep4 _ _ _ T4.out.2 (.inr BU.out)⟩
        have O5 := Lib.hid o4
        have W5 := Lib.hid hW4
        have P5 := Lib.hid (O3b.out.beside hg4 AP3.out)
        have AP5 := Lib.hid ((AP3.out.symm.push O3b.out (n := 2 * k + 2) (c := c4) hat4 (Nat.le_refl _)).symm)
        refine hK.out _ _ (.inr s4) ?_
        clear hK K' o4 hW4 hg4 hat4 keep4
        try simp only [Act.put, List.setIfInBounds_toArray, List.set_cons_zero, List.set_cons_succ]
        refine AnyTill.take (i := 12) (v := ?_) (by simp only [List.getElem?_toArray, List.getElem?_cons_succ, List.getElem?_cons_zero]; rfl) (by kernel_rfl) (by kernel_rfl) (by kernel_rfl) (by kernel_rfl) (fun _ _ _ h => h) (Or.inl ⟨by rfl, ?_⟩) s4 ?_
        rotate_left
        · intro w' hw'; (try dsimp only at hw'); go_simp <;> with_reducible rfl
        try simp only [Act.put, List.setIfInBounds_toArray, List.set_cons_zero, List.set_cons_succ]
        refine AnyTill.done (by kernel_rfl) ?_ _
        refine NoPanic.normal ?_
        clear s4 t3 T4 O3b O4 W4 L0 L1 AP3 BU BV
        go_wp2
        go_roundg (k1 - (k + 1))
        case measure => have := HGK.out; omega
        case rel => exact ⟨k + 1, by omega, rfl, by go_num, P5.out.ext (pr_push PA.out PB.out), O5.out.ext (pr_push PC.out PD.out), AP5.out, W5.out⟩
      · obtain rfl : k = k1 := by omega
        have hmv : ∀ i, i < k → Mon (mA i) ∧ Mon (mB i) ∧ mA i + mB i = mvU f z i := fun i hi => by
          obtain ⟨⟨h1, h2⟩, h3, h4⟩ := HW.out i hi
          have q1 := rof_mon h4 h2
          have q2 := rof_mon h3 h2
          rw [EA.out, EB.out]
          unfold mvU
          show Mon (rof (f i).k (z i)) ∧ Mon (-rof (f i).o (z i)) ∧ rof (f i).k (z i) + -rof (f i).o (z i) = _
          refine ⟨q1, by unfold Mon at q2 ⊢; omega, by omega⟩
        have hrt : ∀ i, i < k → Mon (rA i) ∧ Mon (rB i) ∧ rA i + rB i = rtU f o z i := fun i hi => by
          obtain ⟨⟨h1, h2⟩, h3, h4⟩ := HW.out i hi
          have q1 := rof_mon h3 h1
          have q2 := rof_mon h3 h2
          rw [EC.out, ED.out]
          unfold rtU
          show Mon (rof (f i).o (z i)) ∧ Mon (-rof (f i).o (o i)) ∧ rof (f i).o (z i) + -rof (f i).o (o i) = _
          refine ⟨q2, by unfold Mon at q1 ⊢; omega, by omega⟩
        have S1 := sumis_pr hmv
        have S2 := sumis_pr hrt
        have R3 := Lib.hid (R2.out.below HBW.out)
        have L3 := Lib.hid (L2.out.trans (HBW.out.mono L2.out.size))
        clear hmv hrt HW R2 L2 HBW EA EB EC ED
        obtain ⟨x1, x2, y1, y2, hs1, hs2, hend⟩ : ∃ x1 x2 y1 y2, SumIs (prU mA mB) (2 * k) x1 y1 ∧ SumIs (prU rA rB) (2 * k) x2 y2 ∧ (((y1 = false ∨ (y1 = true ∧ y2 = false)) ∧ m = 0 ∧ r = 0 ∧ e = 6) ∨ ((y1 = true ∧ y2 = true) ∧ m = x1 ∧ r = x2 ∧ e = 0)) := by
          by_cases m1 : Mon (tot (mvU f z) k)
          · by_cases m2 : Mon (tot (rtU f o z) k)
            · refine ⟨_, _, _, _, S1.1 m1, S2.1 m2, .inr ⟨⟨rfl, rfl⟩, ?_⟩⟩
              rcases HRS.out with ⟨h, _⟩ | ⟨_, h⟩
              · exact absurd ⟨m1, m2⟩ h
              · exact h
            · refine ⟨_, _, _, _, S1.1 m1, S2.2 m2, .inl ⟨.inr ⟨rfl, rfl⟩, ?_⟩⟩
              rcases HRS.out with ⟨_, h⟩ | ⟨h, _⟩
              · exact h
              · exact absurd h.2 m2
          · have : ∃ x2 y2, SumIs (prU rA rB) (2 * k) x2 y2 := by
              by_cases m2 : Mon (tot (rtU f o z) k)
              · exact ⟨_, _, S2.1 m2⟩
              · exact ⟨_, _, S2.2 m2⟩
            obtain ⟨x2, y2, h2⟩ := this
            refine ⟨_, x2, _, y2, S1.2 m1, h2, .inl ⟨.inl rfl, ?_⟩⟩
            rcases HRS.out with ⟨_, h⟩ | ⟨h, _⟩
            · exact h
            · exact absurd h.1 m1
        have C1 := Lib.hid (psum_own O1.out (by omega) hs1)
        have C2 := Lib.hid fun w5 (k5 : Below wr.heap.size wr w5) => psum_own (O2.out.below k5) (by omega) hs2
        clear S1 S2 HRS hs1 hs2 O1 O2 AP hlt
        rcases hend with ⟨hy, rfl, rfl, rfl⟩ | ⟨⟨rfl, rfl⟩, rfl, rfl, rfl⟩
        · rcases hy with rfl | ⟨rfl, rfl⟩
          all_goals
            go_wp2_with fail
            refine (C1.out).mono ?_
            rintro e w5 ⟨rfl, hb5⟩
            go_wp2_with fail
            refine (C2.out _ hb5).mono ?_
            rintro e w6 ⟨rfl, hb6⟩
            have R6 := Lib.hid ((R3.out.below hb5).below hb6)
            have L6 := L3.out.trans ((hb5.trans (hb6.mono hb5.size)).mono L3.out.size)
            have TF := Lib.hid ((R6.out.set 0 (.int .i64 0) (by simp)).set 1 (.int .i64 0) (by simp))
            have KF := Lib.hid ((L6.setCell (p := ⟨w.heap.size, 0, none⟩) (Nat.le_refl _) (.int .i64 0)).setCell (p := ⟨w.heap.size, 1, none⟩) (Nat.le_refl _) (.int .i64 0))
            have r0 := R6.out.cell 0 _ rfl
            have r1 := R6.out.cell 1 _ rfl
            have h0 := R6.out.frz 0
            have h1 := R6.out.frz 1
            clear L6 R6 hb5 hb6
            go_wp2
            exact bodyPost_ret (results_ct rfl _ _ w.heap.size _ rfl (load_cr TF.out)) rfl ⟨rfl, KF.out⟩
        · go_wp2_with fail
          refine (C1.out).mono ?_
          rintro e w5 ⟨rfl, hb5⟩
          go_wp2_with fail
          refine (C2.out _ hb5).mono ?_
          rintro e w6 ⟨rfl, hb6⟩
          have R6 := Lib.hid ((R3.out.below hb5).below hb6)
          have L6 := L3.out.trans ((hb5.trans (hb6.mono hb5.size)).mono L3.out.size)
          have TF := Lib.hid ((R6.out.set 0 (.int .i64 m) (by simp)).set 1 (.int .i64 r) (by simp))
          have KF := Lib.hid ((L6.setCell (p := ⟨w.heap.size, 0, none⟩) (Nat.le_refl _) (.int .i64 m)).setCell (p := ⟨w.heap.size, 1, none⟩) (Nat.le_refl _) (.int .i64 r))
          have r0 := R6.out.cell 0 _ rfl
          have r1 := R6.out.cell 1 _ rfl
          have h0 := R6.out.frz 0
          have h1 := R6.out.frz 1
          clear L6 R6 hb5 hb6
          go_wp2
          exact bodyPost_ret (results_ct rfl _ _ w.heap.size _ rfl (load_cr TF.out)) rfl ⟨rfl, KF.out⟩
  · obtain ⟨rfl, rfl, rfl⟩ : m = 0 ∧ r = 0 ∧ e = 1 := by
      rcases HH.out with ⟨_, h⟩ | ⟨h, _⟩ | ⟨h, _⟩
      · exact h
      · exact absurd h hR
      · exact absurd h hR
    have CR := Lib.hid (pwright_any (ok := false) (c := c1) (cu := cu) (cv := cv) HA1.out (HU.out.below L1.out) (HV.out.below L1.out) (by omega) (by simp [hR]))
    clear HH hR HU HV HA1
    go_wp2_with (go_at_call 72; (with_reducible refine (CR.out).mono ?_); rintro e w2 ⟨rfl, hb2⟩; have TF := Lib.hid ((((R1.out.below hb2).set 0 (.int .i64 0) (by simp)).set 1 (.int .i64 0) (by simp))); have L2 := L1.out.trans (hb2.mono L1.out.size); have KF := Lib.hid ((L2.setCell (p := ⟨w.heap.size, 0, none⟩) (Nat.le_refl _) (.int .i64 0)).setCell (p := ⟨w.heap.size, 1, none⟩) (Nat.le_refl _) (.int .i64 0)); have r0 := (R1.out.below hb2).cell 0 _ rfl; have r1 := (R1.out.below hb2).cell 1 _ rfl; have h0 := (R1.out.below hb2).frz 0; have h1 := (R1.out.below hb2).frz 1; clear L2 hb2)
    exact bodyPost_ret (results_ct rfl _ _ w.heap.size _ rfl (load_cr TF.out)) rfl ⟨rfl, KF.out⟩
end Go.Proofs.Ytmlafdehhbhbiaa
