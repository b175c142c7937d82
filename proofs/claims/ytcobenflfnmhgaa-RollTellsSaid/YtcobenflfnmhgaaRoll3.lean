/- Package roll: one row for each class: a contract. -/
import Derived.Test.YtcobenflfnmhgaaRoll2
import Derived.Test.YtcobenflfnmhgaaRoSort
import Derived.Lib.LazyBuf
import Derived.Deep.Upon
import Derived.Deep.CutBlock
import Derived.Deep.DeepCutAuto
namespace Go.Proofs.Ytcobenflfnmhgaa
open Go.RowKit

/-- nothing is appended -/
theorem wpList_app_none {P : Program} {ops : Array Oper} {rest : List Oper} {o : Oper} {a : Act} {Q : Exit → Act → World → Prop} {T E : TypeId} {i : TypeInfo} {w : World} (hgd : o.guard = none) (s x : Operand) (ho : o.op = .call { callee := .builtin .append, args := #[s, x], argTypes := #[T, T] })
    (ht : P.underlying T = some (.slice E)) (hi : P.info? E = some i) (base ad : Option Addr) (l c cx : Nat) (hs : a.eval s = .slice base l c) (hl : l ≤ c) (hx : a.eval x = .slice ad 0 cx)
    (h : wpList P ops Q rest (a.put o.dst (.slice base l c)) w) : wpList P ops Q (o :: rest) a w := by
  refine wpList_plain hgd fun K hK => ?_
  have hsrc : Src P i.size T (.slice ad 0 cx) 0 [] w := by
    cases ad with
    | none => exact Src.ofNil w ht cx
    | some ad => exact Src.ofSlice w ht ad 0 cx [] (by simp) (fun j u hu => by simp at hu) (fun u hu => by simp at hu)
  have hr := run_append_nothing (P := P) w T T o.type E i ht hi base l c hl (.slice ad 0 cx) hsrc
  unfold Oper.wp execOp
  simp only [ho, resolve, invoke, builtin, Sem.run_bind, Sem.run_pure, Result.andThen_ok, List.map_toArray, List.map_cons, List.map_nil, hs, hx, hr]
  exact hK _ _ h
/-- a copy of rows -/
theorem wclone {w : World} {A : Option Addr} {n c : Nat} {f : Nat → Wy} (h : AtR we 5 w A n f) (hn : n ≤ 1000000) :
    Calls Try.prog 22 #[.slice A n c] w fun e w' => ∃ v', e = .returned v' ∧ OwnR we 5 w' 36 w.heap.size v' n f ∧ Below w.heap.size w w' := by
  obtain ⟨i0, hi, hz0, hz1, hz2⟩ := info_parts rrow_info
  have hop := fun w => run_eql_slice_nil (P := Try.prog) w 26 36 A n c rrow_type
  rcases A with _ | ad
  · obtain rfl : n = 0 := by
      rcases h with h | ⟨b, off, e, _⟩
      · exact h
      · cases e
    clear h
    go_enter Try.func22, Try.ntmps22
    go_wp2_with (simp only [hop])
    go_ret
    exact ⟨_, rfl, OwnR.nil _ _ _ _ _ _, Below.refl _ _⟩
  · rcases Nat.eq_zero_or_pos n with rfl | hp
    · clear h
      go_enter Try.func22, Try.ntmps22
      go_wp2_with (first | (simp only [hop]) | at_builtin; (refine wpList_app_none rfl (.tmp 5) (.tmp 6) rfl rrow_type hi _ _ 0 0 c rfl (Nat.le_refl _) rfl ?_))
      go_ret
      exact ⟨_, rfl, World.ownsRow_lit w #[] 0 (Nat.le_refl _) (by decide) rfl, (Below.refl _ _).alloc (Nat.le_refl _) _⟩
    · obtain ⟨b, off, e, hb, hc⟩ := h.some hp
      injection e with e
      subst e
      have HN : Hid (∀ j u, (rl we f n)[j]? = some u → (w.alloc (.cells #[] 36)).cell? ((⟨b, off, none⟩ : Addr).add j) = some u) := Lib.hid fun j u hu => by
        have hl := (List.getElem?_eq_some_iff.1 hu).1
        rw [rl_length we_len] at hl
        have e : j = j / 5 * 5 + j % 5 := by omega
        rw [e, rl_get we_len (by omega) (by omega)] at hu
        have := hc (j / 5) (by omega) (j % 5) u hu
        rw [Addr.add_lit, show off + j = off + j / 5 * 5 + j % 5 by omega]
        exact cell_keep this ((Below.refl _ _).alloc (Nat.le_refl _) _)
      clear h hc
      go_enter Try.func22, Try.ntmps22
      go_wp2_with (first | (simp only [hop]) | at_builtin; go_loud (refine wpList_append_lies _ rfl (.tmp 5) (.tmp 6) _ rfl w.heap.size 36 i0 _ 5 40 rrow_type hi hz0 hz1 hz2 rfl (by decide) _ 0 [] rfl (World.ownsRow_lit w #[] 0 (Nat.le_refl _) (by decide) rfl) ⟨b, off, none⟩ n c (rl we f n) rfl (rl_length we_len f n) HN.out (rl_one we_one) hp (by unfold maxLen; omega) (by omega) (by simp) _ rfl ?_; intro b2 c2 w2 ho2 hg2 _ _; rw [Nat.zero_add, List.nil_append] at ho2; have HO2 := Lib.hid ho2; have HB2 : Hid (Below w.heap.size w w2) := Lib.hid (((Below.refl _ _).alloc (Nat.le_refl _) _).grown hg2 (by simp) (fun q hq => (by have hq' : some w.heap.size = some q := hq; injection hq' with hq'; omega)))))
      go_ret
      exact ⟨_, rfl, HO2.out, HB2.out⟩
/-- a row's three numbers, each more -/
theorem own_add {w : World} {E : TypeId} {base b n c p : Nat} {z : Nat → Wy} {zc zy zo zm zk : Int} (o : OwnR we 5 w E base (.slice (some ⟨b, 0, none⟩) n c) n z) (hp : p < n) (hz : z p = ⟨zc, zy, zo, zm, zk⟩) (xo xm xk : Int) :
    OwnR we 5 (((w.setCell ⟨b, p * 5 + 2, none⟩ (.int .i64 (zo + xo))).setCell ⟨b, p * 5 + 3, none⟩ (.int .i64 (zm + xm))).setCell ⟨b, p * 5 + 4, none⟩ (.int .i64 (zk + xk))) E base (.slice (some ⟨b, 0, none⟩) n c) n (updW z p ⟨zc, zy, zo + xo, zm + xm, zk + xk⟩) := by
  have o1 := o.setc we_len p 2 ⟨zc, zy, zo + xo, zm, zk⟩ (.int .i64 (zo + xo)) hp (by decide) (fun d hd => by rw [hz]; rcases d with _ | _ | _ | d <;> first | rfl | (exact absurd rfl hd)) rfl
  have o2 := o1.setc we_len p 3 ⟨zc, zy, zo + xo, zm + xm, zk⟩ (.int .i64 (zm + xm)) hp (by decide) (fun d hd => by rw [if_pos rfl]; rcases d with _ | _ | _ | _ | d <;> first | rfl | (exact absurd rfl hd)) rfl
  have o3 := o2.setc we_len p 4 ⟨zc, zy, zo + xo, zm + xm, zk + xk⟩ (.int .i64 (zk + xk)) hp (by decide) (fun d hd => by rw [if_pos rfl]; rcases d with _ | _ | _ | _ | _ | d <;> first | rfl | (exact absurd rfl hd)) rfl
  refine o3.ext fun j hj => ?_
  by_cases e : j = p
  · rw [if_pos e, e, updW_at]
  · rw [if_neg e, if_neg e, if_neg e, updW_ne _ _ e]
/-- numbers of which a thousand can be summed -/
def Small (x : Wy) : Prop := (-1000000000000 ≤ x.o ∧ x.o ≤ 1000000000000) ∧ (-1000000000000 ≤ x.m ∧ x.m ≤ 1000000000000) ∧ -1000000000000 ≤ x.k ∧ x.k ≤ 1000000000000
set_option maxHeartbeats 8000000 in
set_option maxRecDepth 100000 in
theorem pcls {w : World} {A : Option Addr} {q c : Nat} {f : Nat → Wy} (h : AtR we 5 w A q f) (hq : q ≤ 1000) (hb : ∀ j, j < q → Small (f j)) (_hc : q ≤ c ∧ c ≤ maxLen) :
    Calls Try.prog 14 #[.slice A q c] w fun e w' => ∃ A2 m c2 z, e = .returned (.slice A2 m c2) ∧ OwnR we 5 w' 36 w.heap.size (.slice A2 m c2) m z ∧ CIs q f m z ∧ m ≤ q ∧ Below w.heap.size w w' := by
  obtain ⟨i0, hi, hz0, hz1, hz2⟩ := info_parts rrow_info
  have C1 := Lib.hid (wclone (c := c) h (by omega))
  have HQ := Lib.hid hq
  have HSM := Lib.hid hb
  clear h hq hb
  go_enter Try.func14, Try.ntmps14
  go_wp2_with fail
  refine (C1.out).mono ?_
  rintro e w1 ⟨v1, rfl, ho1, hb1⟩
  obtain ⟨A1, c1, rfl, _⟩ := ho1.form
  have C2 := Lib.hid (psort ho1 (by have := HQ.out; omega))
  have HB1 := Lib.hid hb1
  clear C1 ho1 hb1
  go_wp2_with fail
  refine (C2.out).mono ?_
  rintro e w2 ⟨rfl, f', ht, hs, hat, hb2⟩
  have HT := Lib.hid ht
  have HS := Lib.hid hs
  have HA := Lib.hid hat
  have HB2 := Lib.hid (HB1.out.trans hb2)
  have HSM' : Hid (∀ j, j < q → Small (f' j)) := Lib.hid fun j hj => by
    obtain ⟨i, hi, e⟩ := HT.out.symm.mem hj
    rw [← e]; exact HSM.out i hi
  clear C2 ht hs hat hb2
  go_wp2
  go_loopg [4, 14] q (fun gh s4 s14 wr => ∃ (k p : Nat) (z : Nat → Wy), k ≤ q ∧ gh = q - k ∧ s14 = .int .i64 k ∧ OwnR we 5 wr 36 w2.heap.size s4 p z ∧ CIs k f' p z ∧ (∀ j, j < p → k < q → (z j).c ≤ (f' k).c) ∧ Below w2.heap.size w2 wr)
  case atStart => exact ⟨0, 0, fun _ => ⟨0, 0, 0, 0, 0⟩, Nat.zero_le _, rfl, rfl, OwnR.nil _ _ _ _ _ _, CIs.zero _ _, fun j hj => by omega, Below.refl _ _⟩
  case round =>
    obtain ⟨k, p, z, hk, hgk, rfl, ho, hci, hle, hbw⟩ := hrel
    have HGK := Lib.hid hgk
    have HO := Lib.hid ho
    have HCI := Lib.hid hci
    have HLE := Lib.hid hle
    have HW := Lib.hid hbw
    have HPK := Lib.hid hci.le
    clear hgk hle hbw hci
    by_cases hlt : k < q
    · obtain ⟨b, off, rfl, hb, c0, c1', c2, c3, c4⟩ := (HA.out.below HW.out).five hlt
      obtain ⟨xc, xy, xo, xm, xk, hx⟩ : ∃ xc xy xo xm xk, f' k = ⟨xc, xy, xo, xm, xk⟩ := ⟨_, _, _, _, _, rfl⟩
      have HX := Lib.hid hx
      rw [hx] at c0 c1' c2 c3 c4
      clear hx
      have hw2 : IntKind.i64.wrap ((k : Int) + 1) = (k : Int) + 1 := IntWalk.i64_in _ (by have := HQ.out; omega)
      by_cases h0 : p = 0
      · subst h0
        obtain ⟨A4, c4', rfl, _⟩ := ho.form
        clear ho
        go_wp2
        go_big_quiet (fail)
        obtain ⟨w8, hw8⟩ : ∃ w8, w8 = ((wr.alloc (.cells #[.int .i64 xc, .int .i64 xy, .int .i64 xo, .int .i64 xm, .int .i64 xk] 36)).drewN nq).setCell ⟨wr.heap.size, 1, none⟩ (.int .i64 (-1)) := ⟨_, rfl⟩; have HB8 : Hid (Below wr.heap.size wr w8) := Lib.hid (by rw [hw8]; exact (below_drewN ((Below.refl _ _).alloc (Nat.le_refl _) _) nq).setCell (Nat.le_refl _) _); have HS8 : Hid (w8.heap.size = wr.heap.size + 1) := Lib.hid (by rw [hw8]; simp); have HO8 := Lib.hid ((HO.out.below HB8.out).alloc (.cells (we ⟨xc, -1, xo, xm, xk⟩).toArray 36)); have HC8 := Lib.hid (rec_lit w8 (we ⟨xc, -1, xo, xm, xk⟩) 36 (wr.heap.size + 1) HS8.out); have HBW : Hid (Below w2.heap.size w2 (w8.alloc (.cells (we ⟨xc, -1, xo, xm, xk⟩).toArray 36))) := Lib.hid ((HW.out.trans (HB8.out.mono HW.out.size)).alloc (by have := HW.out.size; have := HS8.out; omega) _); have HBZ := Lib.hid HBW.out.size
        have hlt0 : ∀ j, j < 0 → (z j).c < (f' k).c := fun j hj => by omega
        have HPU := Lib.hid (HCI.out.push hlt0)
        rw [HX.out] at HPU
        clear hlt0
        go_wp2_with (at_builtin; rw [← hw8]; (refine wpList_push_r rfl (.tmp 34) (.tmp 36) rfl rrow_type hi hz0 hz1 hz2 (by decide) rfl (by decide) we_len we_one w2 w2.heap.size 0 (wr.heap.size + 1) _ z ⟨xc, -1, xo, xm, xk⟩ rfl rfl HC8.out HO8.out (by omega) HBW.out HBZ.out _ rfl ?_; intro b9 c9 w9 ho9 hb9 hg9 hat9; have HO9 := Lib.hid ho9; have HB9 := Lib.hid hb9; have HK9 := Lib.hid hg9; clear ho9 hb9 hg9 hat9))
        go_roundg (q - (k + 1))
        case measure => have := HGK.out; omega
        case rel => exact ⟨k + 1, 1, _, by omega, rfl, by go_num, HO9.out, HPU.out, fun j hj hkq => by
            obtain rfl : j = 0 := by omega
            rw [if_pos rfl]
            have := HS.out k (k + 1) (by omega) hkq
            rw [HX.out] at this
            exact this, HB9.out⟩
      · obtain ⟨b4, c4', rfl, hc4, hm4, hbb4, hbl4, hcc, hfz⟩ := ho.some we_len (show 0 < p by omega)
        obtain ⟨p', rfl⟩ : ∃ p', p = p' + 1 := ⟨p - 1, by omega⟩
        obtain ⟨zc, zy, zo, zm, zk, hz⟩ : ∃ zc zy zo zm zk, z p' = ⟨zc, zy, zo, zm, zk⟩ := ⟨_, _, _, _, _, rfl⟩
        have HZ := Lib.hid hz
        have d0 := hcc p' (by omega) 0 _ rfl
        have d1 := hcc p' (by omega) 1 _ rfl
        have d2 := hcc p' (by omega) 2 _ rfl
        have d3 := hcc p' (by omega) 3 _ rfl
        have d4 := hcc p' (by omega) 4 _ rfl
        rw [hz] at d0 d1 d2 d3 d4
        rw [Nat.add_zero] at d0
        have f2 := hfz (p' * 5 + 2)
        have f3 := hfz (p' * 5 + 3)
        have f4 := hfz (p' * 5 + 4)
        have hd : decide ((p' : Int) < 0) = false := by simp
        have p1 : (0 : Int) ≤ (p' : Int) := by omega
        have p2 : (p' : Int) < ((p' + 1 : Nat) : Int) := by omega
        have p3 : (p' : Int) < (p' : Int) + 1 := by omega
        have p4 : p' < p' + 1 := by omega
        have hp1 : p' ≤ 1000000 := Nat.le_trans (Nat.le_succ p') (Nat.le_trans HPK.out (Nat.le_trans hk (Nat.le_trans HQ.out (by decide))))
        have HP2 : Hid (p' + 1 ≤ 1000000) := Lib.hid (Nat.le_trans HPK.out (Nat.le_trans hk (Nat.le_trans HQ.out (by decide))))
        have HB4 := Lib.hid hbb4
        have HL4 := Lib.hid hbl4
        have HC4 := Lib.hid (And.intro hc4 hm4)
        clear hcc hfz hz h0 ho hc4 hm4 hbb4
        by_cases he : zc = xc
        · have he' : (zc != xc) = false := by simpa using he
          have hcl : (z p').c = (f' k).c := by rw [HZ.out, HX.out]; exact he
          have HAD := Lib.hid (HCI.out.add hcl)
          have bd : ∀ (F : Wy → Int), (∀ j, j < q → -1000000000000 ≤ F (f' j) ∧ F (f' j) ≤ 1000000000000) → F (z p') = cs F f' (z p').c k → IntKind.i64.wrap (F (z p') + F (f' k)) = F (z p') + F (f' k) := fun F hF e => by
            have h1 := cs_bd (F := F) (f := f') (B := 1000000000000) (c := (z p').c) (k + 1) (fun j hj => hF j (by omega)) (by decide)
            rw [cs_succ, if_pos hcl.symm, ← e] at h1
            have := HQ.out
            exact IntWalk.i64_in _ (by omega)
          have hwo := bd (·.o) (fun j hj => (HSM'.out j hj).1) (HCI.out.so p' (by omega))
          have hwm := bd (·.m) (fun j hj => (HSM'.out j hj).2.1) (HCI.out.sm p' (by omega))
          have hwk := bd (·.k) (fun j hj => (HSM'.out j hj).2.2) (HCI.out.sk p' (by omega))
          rw [HZ.out, HX.out] at hwo hwm hwk
          dsimp only at hwo hwm hwk
          have HH := Lib.hid hcl
          clear he bd hcl
          go_wp2
          go_big_quiet (fail)
          go_wp2
          go_region_law (fail)
          all_goals
            go_wp2
            go_region_law (fail)
          all_goals
            go_wp2
            go_region_law (fail)
          all_goals
            go_wp2
            go_roundg (q - (k + 1))
            case measure => have := HGK.out; omega
            case rel =>
              refine ⟨k + 1, p' + 1, _, by omega, rfl, by go_num, ?_, HAD.out, ?_, ?_⟩
              · have e := own_add (HO.out.alloc (.cells #[.int .i64 xc, .int .i64 xy, .int .i64 xo, .int .i64 xm, .int .i64 xk] 36)) p4 HZ.out xo xm xk
                rw [HX.out, HZ.out]
                exact e
              · intro j hj hkq
                have h2 := HS.out k (k + 1) (by omega) hkq
                by_cases e : j = p'
                · subst e
                  rw [updW_at]
                  rw [← HH.out] at h2
                  exact h2
                · rw [updW_ne _ _ e]
                  exact Int.le_trans (HLE.out j (by omega) hlt) h2
              · have B := HW.out.alloc HW.out.size (.cells #[.int .i64 xc, .int .i64 xy, .int .i64 xo, .int .i64 xm, .int .i64 xk] 36)
                exact (((((below_drewN B _).setCell HB4.out _).setCell HB4.out _).setCell HB4.out _).drew).drew
        · have he' : (zc != xc) = true := by simpa using he
          have hlt1 : ∀ j, j < p' + 1 → (z j).c < (f' k).c := fun j hj => by
            have h1 := HLE.out p' (by omega) hlt
            rw [HX.out] at h1 ⊢
            have h2 : (z j).c ≤ (z p').c := by
              by_cases e : j = p'
              · rw [e]; exact Int.le_refl _
              · exact Int.le_of_lt (HCI.out.asc j p' (by omega) (by omega))
            rw [HZ.out] at h1 h2
            simp only at h1 h2 ⊢
            omega
          have HPU := Lib.hid (HCI.out.push hlt1)
          rw [HX.out] at HPU
          clear he hlt1
          go_wp2
          go_big_quiet (fail)
          obtain ⟨w8, hw8⟩ : ∃ w8, w8 = ((wr.alloc (.cells #[.int .i64 xc, .int .i64 xy, .int .i64 xo, .int .i64 xm, .int .i64 xk] 36)).drewN nq).setCell ⟨wr.heap.size, 1, none⟩ (.int .i64 (-1)) := ⟨_, rfl⟩; have HB8 : Hid (Below wr.heap.size wr w8) := Lib.hid (by rw [hw8]; exact (below_drewN ((Below.refl _ _).alloc (Nat.le_refl _) _) nq).setCell (Nat.le_refl _) _); have HS8 : Hid (w8.heap.size = wr.heap.size + 1) := Lib.hid (by rw [hw8]; simp); have HO8 := Lib.hid ((HO.out.below HB8.out).alloc (.cells (we ⟨xc, -1, xo, xm, xk⟩).toArray 36)); have HC8 := Lib.hid (rec_lit w8 (we ⟨xc, -1, xo, xm, xk⟩) 36 (wr.heap.size + 1) HS8.out); have HBW : Hid (Below w2.heap.size w2 (w8.alloc (.cells (we ⟨xc, -1, xo, xm, xk⟩).toArray 36))) := Lib.hid ((HW.out.trans (HB8.out.mono HW.out.size)).alloc (by have := HW.out.size; have := HS8.out; omega) _); have HBZ := Lib.hid HBW.out.size
          go_wp2_with (at_builtin; rw [← hw8]; (refine wpList_push_r rfl (.tmp 34) (.tmp 36) rfl rrow_type hi hz0 hz1 hz2 (by decide) rfl (by decide) we_len we_one w2 w2.heap.size (p' + 1) (wr.heap.size + 1) _ z ⟨xc, -1, xo, xm, xk⟩ rfl rfl HC8.out HO8.out HP2.out HBW.out HBZ.out _ rfl ?_; intro b9 c9 w9 ho9 hb9 hg9 hat9; have HO9 := Lib.hid ho9; have HB9 := Lib.hid hb9; have HK9 := Lib.hid hg9; clear ho9 hb9 hg9 hat9))
          go_roundg (q - (k + 1))
          case measure => have := HGK.out; omega
          case rel => exact ⟨k + 1, p' + 1 + 1, _, by omega, rfl, by go_num, HO9.out, HPU.out, fun j hj hkq => by
              have h2 := HS.out k (k + 1) (by omega) hkq
              by_cases e : j = p' + 1
              · rw [if_pos e]
                rw [HX.out] at h2
                exact h2
              · rw [if_neg e]
                exact Int.le_trans (HLE.out j (by omega) hlt) h2, HB9.out⟩
    · obtain rfl : k = q := by omega
      obtain ⟨A4, c4, rfl, _⟩ := ho.form
      have HCQ : Hid (CIs k f p z) := Lib.hid (HT.out.cis HCI.out)
      clear hlt
      go_wp2
      go_ret
      exact ⟨_, _, _, _, rfl, HO.out.mono HB2.out.size, HCQ.out, HPK.out, HB2.out.trans (HW.out.mono HB2.out.size)⟩
end Go.Proofs.Ytcobenflfnmhgaa
