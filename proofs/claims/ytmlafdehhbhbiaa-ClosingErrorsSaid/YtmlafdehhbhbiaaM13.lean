/- Several texts of mine in one: Cl1 Cl2 Cl3 Cl4 Cl5. -/
import Derived.Test.YtmlafdehhbhbiaaMkQ
import Derived.Test.YtmlafdehhbhbiaaCur
import Derived.Test.YtmlafdehhbhbiaaM8
import Derived.Test.YtmlafdehhbhbiaaRm
import Derived.Lib.LazyBuf
import Derived.Deep.Upon
import Derived.Deep.CutBlock
import Derived.Deep.LoopGhost
import Derived.Deep.DeepCutAuto
import Derived.BigQuiet
import Derived.Deep.QuietTactic
import Derived.Test.YtmlafdehhbhbiaaTk
import Derived.Test.YtmlafdehhbhbiaaOrd4
import Derived.Deep.RegionHeld3
/- Package closing: its small functions: nothing closed yet, a part, copies, rows without amounts. -/
namespace Go.Proofs.Ytmlafdehhbhbiaa
open Go.RowKit
theorem results_c1 {fn : Func} {p : Tmp} {T : TypeId} (h : fn.results = #[.cell p T]) (tmps : Array Value) (w : World) (b : Nat) (x : Value) (hp : tmps.getD p undef = .pointer (some ⟨b, 0, none⟩)) (hl : (loadVar T ⟨b, 0, none⟩).run Try.prog w = .ok x w) :
    (results fn tmps).run Try.prog w = .ok x w := by
  have hp' : tmps[p]?.getD undef = .pointer (some ⟨b, 0, none⟩) := by simpa using hp
  simp [results, h, hp', asAddr, hl]
set_option maxRecDepth 100000 in
theorem pnone_any (w : World) : Calls Try.prog 9 #[] w fun e w' => e = .returned (.agg (balL MBal.none .nil .nil).toArray) ∧ Below w.heap.size w w' := by
  go_enter Try.func9, Try.ntmps9
  go_wp2_with fail
  exact bodyPost_ret (results_c1 rfl _ _ w.heap.size _ rfl (run_loadVar_row _ _ _ _ _ (0, 0) _ (heap_alloc_last w _) Try.underlying37 rfl (bal_size MBal.none .nil .nil))) rfl ⟨rfl, (Below.refl _ _).alloc (Nat.le_refl _) _⟩
theorem pcshr_at (a r x : Int) (w : World) (h1 : -400000000000 ≤ a ∧ a ≤ 400000000000) (h2 : 0 ≤ r ∧ r ≤ 10000000) (H : Hid (rof a r = x)) :
    Calls Try.prog 54 #[.int .i64 a, .int .i64 r] w fun e' w' => e' = .returned (.int .i64 x) ∧ w = w' := by
  go_enter Try.func54, Try.ntmps54
  go_wp2_with (first | (go_at_call 46; (with_reducible refine (of_at _ _ _ _ (by omega) (by omega) (by omega) (by omega) H).mono ?_); rintro e w' ⟨rfl, rfl⟩))
  go_ret
  exact ⟨rfl, rfl⟩
set_option maxRecDepth 100000 in
/-- a copy of buckets -/
theorem cbclone {w : World} {A : Option Addr} {n c : Nat} {f : Nat → Bk} (h : AtR be 3 w A n f) (hn : n ≤ 1000000) :
    Calls Try.prog 29 #[.slice A n c] w fun e w' => ∃ v', e = .returned v' ∧ OwnR be 3 w' 81 w.heap.size v' n f ∧ Below w.heap.size w w' := by
  obtain ⟨i0, hi, hz0, hz1, hz2⟩ := info_parts bk_info
  have hop := fun w => run_eql_slice_nil (P := Try.prog) w 34 81 A n c bk_type
  rcases A with _ | ad
  · obtain rfl : n = 0 := by
      rcases h with h | ⟨b, off, e, _⟩
      · exact h
      · cases e
    clear h
    go_enter Try.func29, Try.ntmps29
    go_wp2_with (simp only [hop])
    go_ret
    exact ⟨_, rfl, OwnR.nil _ _ _ _ _ _, Below.refl _ _⟩
  · rcases Nat.eq_zero_or_pos n with rfl | hp
    · clear h
      go_enter Try.func29, Try.ntmps29
      go_wp2_with (first | (simp only [hop]) | at_builtin; (refine wpList_app_none rfl (.tmp 5) (.tmp 6) rfl bk_type hi _ _ 0 0 c rfl (Nat.le_refl _) rfl ?_))
      go_ret
      exact ⟨_, rfl, World.ownsRow_lit w #[] 0 (Nat.le_refl _) (by decide) rfl, (Below.refl _ _).alloc (Nat.le_refl _) _⟩
    · obtain ⟨b, off, e, hb, hc⟩ := h.some hp
      injection e with e
      subst e
      have HN : Hid (∀ j u, (rl be f n)[j]? = some u → (w.alloc (.cells #[] 81)).cell? ((⟨b, off, none⟩ : Addr).add j) = some u) := Lib.hid fun j u hu => by
        have hl := (List.getElem?_eq_some_iff.1 hu).1
        rw [rl_length be_len] at hl
        have e : j = j / 3 * 3 + j % 3 := by omega
        rw [e, rl_get be_len (by omega) (by omega)] at hu
        have := hc (j / 3) (by omega) (j % 3) u hu
        rw [Addr.add_lit, show off + j = off + j / 3 * 3 + j % 3 by omega]
        exact cell_keep this ((Below.refl _ _).alloc (Nat.le_refl _) _)
      clear h hc
      go_enter Try.func29, Try.ntmps29
      go_wp2_with (first | (simp only [hop]) | at_builtin; go_loud (refine wpList_append_lies _ rfl (.tmp 5) (.tmp 6) _ rfl w.heap.size 81 i0 _ 3 24 bk_type hi hz0 hz1 hz2 rfl (by decide) _ 0 [] rfl (World.ownsRow_lit w #[] 0 (Nat.le_refl _) (by decide) rfl) ⟨b, off, none⟩ n c (rl be f n) rfl (rl_length be_len f n) HN.out (rl_one be_one) hp (by unfold maxLen; omega) (by omega) (by simp) _ rfl ?_; intro b2 c2 w2 ho2 hg2 _ _; rw [Nat.zero_add, List.nil_append] at ho2; have HO2 := Lib.hid ho2; have HB2 : Hid (Below w.heap.size w w2) := Lib.hid (((Below.refl _ _).alloc (Nat.le_refl _) _).grown hg2 (by simp) (fun q hq => (by have hq' : some w.heap.size = some q := hq; injection hq' with hq'; omega)))))
      go_ret
      exact ⟨_, rfl, HO2.out, HB2.out⟩
set_option maxRecDepth 100000 in
/-- a copy of numbers -/
theorem ciclone {w : World} {A : Option Addr} {n c : Nat} {f : Nat → Int} (h : At w A n f) (hn : n ≤ 1000000) :
    Calls Try.prog 50 #[.slice A n c] w fun e w' => ∃ v', e = .returned v' ∧ Own w' 3 w.heap.size v' n f ∧ Below w.heap.size w w' := by
  obtain ⟨i0, hi, hz0, hz1, hz2⟩ := info_parts int_info
  have hop := fun w => run_eql_slice_nil (P := Try.prog) w 35 3 A n c Try.underlying35
  rcases A with _ | ad
  · obtain rfl : n = 0 := by
      rcases h with h | ⟨b, off, e, _⟩
      · exact h
      · cases e
    clear h
    go_enter Try.func50, Try.ntmps50
    go_wp2_with (simp only [hop])
    go_ret
    exact ⟨_, rfl, Own.nil _ _ _ _, Below.refl _ _⟩
  · rcases Nat.eq_zero_or_pos n with rfl | hp
    · clear h
      go_enter Try.func50, Try.ntmps50
      go_wp2_with (first | (simp only [hop]) | at_builtin; (refine wpList_app_none rfl (.tmp 5) (.tmp 6) rfl Try.underlying35 hi _ _ 0 0 c rfl (Nat.le_refl _) rfl ?_))
      go_ret
      exact ⟨_, rfl, World.ownsRow_lit w #[] 0 (Nat.le_refl _) (by decide) rfl, (Below.refl _ _).alloc (Nat.le_refl _) _⟩
    · obtain ⟨b, off, e, hb, hc⟩ := h.some hp
      injection e with e
      subst e
      have HN : Hid (∀ j u, ((List.range n).map fun j => Value.int .i64 (f j))[j]? = some u → (w.alloc (.cells #[] 3)).cell? ((⟨b, off, none⟩ : Addr).add j) = some u) := Lib.hid fun j u hu => by
        have hl := (List.getElem?_eq_some_iff.1 hu).1
        rw [List.length_map, List.length_range] at hl
        rw [List.getElem?_map, List.getElem?_range hl] at hu
        injection hu with hu
        subst hu
        rw [Addr.add_lit]
        exact cell_keep (hc j hl) ((Below.refl _ _).alloc (Nat.le_refl _) _)
      clear h hc
      go_enter Try.func50, Try.ntmps50
      go_wp2_with (first | (simp only [hop]) | at_builtin; go_loud (refine wpList_append_lies _ rfl (.tmp 5) (.tmp 6) _ rfl w.heap.size 3 i0 _ 1 8 Try.underlying35 hi hz0 hz1 hz2 rfl (by decide) _ 0 [] rfl (World.ownsRow_lit w #[] 0 (Nat.le_refl _) (by decide) rfl) ⟨b, off, none⟩ n c ((List.range n).map fun j => Value.int .i64 (f j)) rfl (by simp) HN.out (by intro u hu; obtain ⟨j, _, rfl⟩ := List.mem_map.1 hu; rfl) hp (by unfold maxLen; omega) (by omega) (by simp) _ rfl ?_; intro b2 c2 w2 ho2 hg2 _ _; rw [Nat.zero_add, List.nil_append] at ho2; have HO2 := Lib.hid ho2; have HB2 : Hid (Below w.heap.size w w2) := Lib.hid (((Below.refl _ _).alloc (Nat.le_refl _) _).grown hg2 (by simp) (fun q hq => (by have hq' : some w.heap.size = some q := hq; injection hq' with hq'; omega)))))
      go_ret
      exact ⟨_, rfl, HO2.out, HB2.out⟩
/-- where a list lies that a call from z blocks on has made -/
theorem own_free {w : World} {E : TypeId} {base n c : Nat} {A : Option Addr} {g : Nat → Int} (o : Own w E base (.slice A n c) n g) : Free (fun _ => 0) base w A := fun b off e => by
  have := World.ownsRow.lt o b (by rw [e]; rfl)
  exact ⟨this.1, this.2, rfl⟩
theorem ownr_free {α : Type} {enc : α → List Value} {k : Nat} {w : World} {E : TypeId} {base n c : Nat} {A : Option Addr} {g : Nat → α} (o : OwnR enc k w E base (.slice A n c) n g) : Free (fun _ => 0) base w A := fun b off e => by
  have := World.ownsRow.lt o b (by rw [e]; rfl)
  exact ⟨this.1, this.2, rfl⟩
theorem OwnR.off {α : Type} {enc : α → List Value} {k : Nat} {w : World} {E : TypeId} {base n b : Nat} {v : Value} {g : Nat → α} (o : OwnR enc k w E base v n g) (hb : b < base) (P : Array Value) : OwnR enc k (w.setRow b P) E base v n g :=
  o.blocks fun k hk => setRow_other _ _ _ _ (by have := (World.ownsRow.lt o k hk).1; omega)
theorem own_off {w : World} {E : TypeId} {base n b : Nat} {v : Value} {g : Nat → Int} (o : Own w E base v n g) (hb : b < base) (P : Array Value) : Own (w.setRow b P) E base v n g :=
  own_blocks o fun k hk => setRow_other _ _ _ _ (by have := (World.ownsRow.lt o k hk).1; omega)
theorem Free.wide {O : Nat → Nat} {z z2 : Nat} {w : World} {A : Option Addr} (h : Free O z w A) (hz : z2 ≤ z) : Free O z2 w A := fun b off e => by
  obtain ⟨h1, h2, h3⟩ := h b off e
  exact ⟨by omega, h2, h3⟩
set_option maxHeartbeats 4000000 in
set_option maxRecDepth 100000 in
/-- balances with lists of their own -/
theorem pcopied {w : World} {b : MBal} {sb sr : Sl} (ho : BalAt w b sb sr) (hn : b.n ≤ 1000) :
    Calls Try.prog 27 #[.agg (balL b sb sr).toArray] w fun e w' => ∃ sb' sr', e = .returned (.agg (balL b sb' sr').toArray) ∧ BalO (fun _ => 0) w.heap.size w' b sb' sr' ∧ Below w.heap.size w w' := by
  obtain ⟨p, n, g, r, nx, lf, tm, ls, al⟩ := b
  obtain ⟨ab, cb⟩ := sb
  obtain ⟨ar, cr⟩ := sr
  obtain ⟨hb, hr, rows, rates⟩ := ho
  dsimp only at rows rates hn
  have HR := Lib.hid rows
  have HT := Lib.hid rates
  have h0 : ((w.alloc (.cells (balL ⟨p, n, g, r, nx, lf, tm, ls, al⟩ ⟨ab, cb⟩ ⟨ar, cr⟩).toArray 37)).alloc (.cells (balL bal0 .nil .nil).toArray 37)).heap[w.heap.size]? = some (.cells (balL ⟨p, n, g, r, nx, lf, tm, ls, al⟩ ⟨ab, cb⟩ ⟨ar, cr⟩).toArray 37 (0, 0)) := by
    rw [heap_alloc_old _ _ (by simp)]; exact heap_alloc_last w _
  have z : (w.alloc (.cells (balL ⟨p, n, g, r, nx, lf, tm, ls, al⟩ ⟨ab, cb⟩ ⟨ar, cr⟩).toArray 37)).heap.size = w.heap.size + 1 := by simp
  have h1 := heap_alloc_last (w.alloc (.cells (balL ⟨p, n, g, r, nx, lf, tm, ls, al⟩ ⟨ab, cb⟩ ⟨ar, cr⟩).toArray 37)) (.cells (balL bal0 .nil .nil).toArray 37)
  rw [z] at h1
  have kb := ((Below.refl w.heap.size w).alloc (Nat.le_refl _) (.cells (balL ⟨p, n, g, r, nx, lf, tm, ls, al⟩ ⟨ab, cb⟩ ⟨ar, cr⟩).toArray 37)).alloc (by omega) (.cells (balL bal0 .nil .nil).toArray 37)
  obtain ⟨wa, hwa⟩ : ∃ wa, (w.alloc (.cells (balL ⟨p, n, g, r, nx, lf, tm, ls, al⟩ ⟨ab, cb⟩ ⟨ar, cr⟩).toArray 37)).alloc (.cells (balL bal0 .nil .nil).toArray 37) = wa := ⟨_, rfl⟩
  rw [hwa] at h0 h1 kb
  have c1 : wa.cell? ⟨w.heap.size, 1, none⟩ = some (.slice ab n cb) := cell_of_row _ _ 1 _ _ _ h0
  have H0 := Lib.hid h0
  have H1 := Lib.hid h1
  have KB := Lib.hid kb
  have HWA := Lib.hid hwa
  have lt1 := (Array.getElem?_eq_some_iff.1 h1).1
  clear h0 h1 kb z hwa rows rates
  go_enter Try.func27, Try.ntmps27
  go_upto_region 1 with fail
  rw [show ((w.alloc (.cells (balL ⟨p, n, g, r, nx, lf, tm, ls, al⟩ ⟨ab, cb⟩ ⟨ar, cr⟩).toArray 37)).alloc (.cells #[.int .i64 0, .slice none 0 0, .slice none 0 0, .int .i64 0, .int .i64 0, .int .i64 0, .int .i64 0, .int .i64 0] 37)) = wa from HWA.out]
  go_wp2_with fail
  refine (cbclone (HR.out.below KB.out) (by omega)).mono ?_
  rintro e w2 ⟨v2, rfl, o2, hb⟩
  obtain ⟨A2, c2, rfl, hc2, hm2, _, ha2⟩ := o2.at be_len
  have HO2 := Lib.hid o2
  have HA2 := Lib.hid ha2
  have lt0 := (Array.getElem?_eq_some_iff.1 H0.out).1
  have B2 := Lib.hid ((hb.block _ lt0).trans H0.out)
  have B3 := Lib.hid ((hb.block _ lt1).trans H1.out)
  have lt2 := Nat.lt_of_lt_of_le lt0 hb.size
  have K2 := Lib.hid (KB.out.trans (hb.mono KB.out.size))
  have KW := Lib.hid hb
  clear o2 ha2 hb c1
  have c1 : w2.cell? ⟨w.heap.size, 1, none⟩ = some (.slice ab n cb) := cell_of_row _ _ 1 _ _ _ B2.out
  have f1 := frozen_of_row _ _ 1 _ _ B2.out
  go_upto_region 2 with fail
  rw [bal_set1 B2.out]
  generalize hw3 : World.setRow _ _ _ = w3
  have D3 := Lib.hid (show w3.heap[w.heap.size]? = some (.cells (balL ⟨p, n, g, r, nx, lf, tm, ls, al⟩ ⟨A2, c2⟩ ⟨ar, cr⟩).toArray 37 (0, 0)) from by rw [← hw3]; exact setRow_heap _ _ _ _ _ _ B2.out)
  have E3 := Lib.hid (show w3.heap[w.heap.size + 1]? = some (.cells (balL bal0 .nil .nil).toArray 37 (0, 0)) from by rw [← hw3, setRow_other _ _ _ _ (by omega)]; exact B3.out)
  have K3 := Lib.hid (show Below w.heap.size w w3 from by rw [← hw3]; exact below_setRow K2.out (Nat.le_refl _) _)
  have O3 := Lib.hid (show OwnR be 3 w3 81 wa.heap.size (.slice A2 n c2) n g from by rw [← hw3]; exact HO2.out.off lt0 _)
  clear hw3 c1 f1 B2 B3 HO2 HA2
  have c1 : w3.cell? ⟨w.heap.size, 2, none⟩ = some (.slice ar n cr) := cell_of_row _ _ 2 _ _ _ D3.out
  go_wp2_with fail
  refine (ciclone (HT.out.below K3.out) (by omega)).mono ?_
  rintro e w4 ⟨v4, rfl, o4, hb⟩
  obtain ⟨A4, c4, rfl, hc4, hm4, _⟩ := o4.at
  have HO4 := Lib.hid o4
  have lt3 := (Array.getElem?_eq_some_iff.1 E3.out).1
  have lw3 := Lib.hid (KW.out.size)
  have B4 := Lib.hid ((hb.block _ (by omega)).trans D3.out)
  have B5 := Lib.hid ((hb.block _ lt3).trans E3.out)
  have O4 := Lib.hid (O3.out.below hb)
  have K4 := Lib.hid (K3.out.trans (hb.mono K3.out.size))
  have lw4 := Lib.hid hb.size
  clear o4 hb c1 D3 E3 O3
  have c1 : w4.cell? ⟨w.heap.size, 2, none⟩ = some (.slice ar n cr) := cell_of_row _ _ 2 _ _ _ B4.out
  have f1 := frozen_of_row _ _ 2 _ _ B4.out
  go_upto_region 3 with fail
  rw [bal_set2 B4.out]
  generalize hw5 : World.setRow _ _ _ = w5
  have D5 := Lib.hid (show w5.heap[w.heap.size]? = some (.cells (balL ⟨p, n, g, r, nx, lf, tm, ls, al⟩ ⟨A2, c2⟩ ⟨A4, c4⟩).toArray 37 (0, 0)) from by rw [← hw5]; exact setRow_heap _ _ _ _ _ _ B4.out)
  have E5 := Lib.hid (show w5.heap[w.heap.size + 1]? = some (.cells (balL bal0 .nil .nil).toArray 37 (0, 0)) from by rw [← hw5, setRow_other _ _ _ _ (by omega)]; exact B5.out)
  have K5 := Lib.hid (show Below w.heap.size w w5 from by rw [← hw5]; exact below_setRow K4.out (Nat.le_refl _) _)
  have O5 := Lib.hid (show OwnR be 3 w5 81 wa.heap.size (.slice A2 n c2) n g from by rw [← hw5]; exact O4.out.off lt0 _)
  have Q5 := Lib.hid (show Own w5 3 w3.heap.size (.slice A4 n c4) n r from by rw [← hw5]; exact own_off HO4.out (by omega) _)
  have DR := Lib.hid (row_range D5.out)
  clear hw5 c1 f1 B4 B5 O4 HO4
  go_wp2_with (first | ((with_reducible show wpList _ _ _ _ _ _); (refine wpList_load_mid rfl 37 (.tmp 1) rfl w.heap.size 0 rfl (balL ⟨p, n, g, r, nx, lf, tm, ls, al⟩ ⟨A2, c2⟩ ⟨A4, c4⟩) _ DR.out Try.underlying37 rfl (bal_size ⟨p, n, g, r, nx, lf, tm, ls, al⟩ ⟨A2, c2⟩ ⟨A4, c4⟩) ?_)) | ((with_reducible show wpList _ _ _ _ _ _); (refine wpList_store_row rfl 37 (.tmp 2) (.tmp 11) rfl (w.heap.size + 1) (balL ⟨p, n, g, r, nx, lf, tm, ls, al⟩ ⟨A2, c2⟩ ⟨A4, c4⟩).toArray rfl rfl _ _ E5.out (bal_size ⟨p, n, g, r, nx, lf, tm, ls, al⟩ ⟨A2, c2⟩ ⟨A4, c4⟩) rfl (bal_one _ _ _) ?_)))
  (try simp only [Exit.inBlock, Exit.then])
  refine bodyPost_ret (results_c1 rfl _ _ (w.heap.size + 1) _ rfl (run_loadVar_row _ _ _ _ _ (0, 0) _ (setRow_heap _ _ _ _ _ _ E5.out) Try.underlying37 rfl (bal_size ⟨p, n, g, r, nx, lf, tm, ls, al⟩ ⟨A2, c2⟩ ⟨A4, c4⟩))) rfl ?_
  have l3 := lw3.out
  have o5 := O5.out.off lt1 (balL ⟨p, n, g, r, nx, lf, tm, ls, al⟩ ⟨A2, c2⟩ ⟨A4, c4⟩).toArray
  have q5 := own_off Q5.out (show w.heap.size + 1 < w3.heap.size by omega) (balL ⟨p, n, g, r, nx, lf, tm, ls, al⟩ ⟨A2, c2⟩ ⟨A4, c4⟩).toArray
  exact ⟨⟨A2, c2⟩, ⟨A4, c4⟩, rfl, ⟨⟨⟨hc2, hm2⟩, ⟨hc4, hm4⟩, ownr_at o5, own_at q5⟩, (ownr_free o5).wide (by omega), (own_free q5).wide (by omega)⟩, below_setRow K5.out (by omega) _⟩
end Go.Proofs.Ytmlafdehhbhbiaa

/- Package closing: the buckets that rows are of; their rates at the opening. -/
namespace Go.Proofs.Ytmlafdehhbhbiaa
open Go.RowKit
/-- a new list of n empty buckets -/
theorem make_b (n : Nat) (hn : n ≤ 1000000) (w : World) :
    (Instr.makeSlice 34 (.int .i64 (n : Int)) (.int .i64 (n : Int))).run Try.prog w = .ok (.slice (some ⟨w.heap.size, 0, none⟩) n n) (w.alloc (.cells (madeCells #[.int .i64 0, .int .i64 0, .int .i64 0] (n * 3)) 81)) := by
  obtain ⟨i, hi, hz, hsize, hby⟩ := info_parts bk_info
  have r := run_make (P := Try.prog) w _ _ i _ bk_type hi hz .i64 .i64 n n (by omega) (by omega) (by rw [hby]; omega) (by omega)
  rw [hsize] at r
  simp only [Int.toNat_natCast] at r
  exact r
theorem made_b (w : World) (n : Nat) (hn : n ≤ 1000000) : OwnR be 3 (w.alloc (.cells (madeCells #[.int .i64 0, .int .i64 0, .int .i64 0] (n * 3)) 81)) 81 w.heap.size (.slice (some ⟨w.heap.size, 0, none⟩) n n) n (fun _ => ⟨0, 0, 0⟩) := by
  have e : (madeCells #[.int .i64 0, .int .i64 0, .int .i64 0] (n * 3)).toList = rl be (fun _ => (⟨0, 0, 0⟩ : Bk)) n := by
    apply List.ext_getElem? fun j => ?_
    by_cases h : j < n * 3
    · have e : j = j / 3 * 3 + j % 3 := by omega
      have hr : (rl be (fun _ => (⟨0, 0, 0⟩ : Bk)) n)[j]? = (be ⟨0, 0, 0⟩)[j % 3]? := by
        conv => lhs; rw [e]
        exact rl_get be_len (show j / 3 < n by omega) (by omega)
      rw [hr]
      rcases (show j % 3 = 0 ∨ j % 3 = 1 ∨ j % 3 = 2 by omega) with q | q | q <;> simp [madeCells, be, q, h]
    · rw [List.getElem?_eq_none (by simp [size_madeCells]; omega), List.getElem?_eq_none (by rw [rl_length be_len]; omega)]
  unfold OwnR; rw [← e]
  exact World.ownsRow_lit w _ n (Nat.le_refl _) (by unfold maxLen; omega) (size_madeCells _ _)
set_option maxRecDepth 100000 in
/-- a whole bucket is written -/
theorem OwnR.setb {w : World} {E : TypeId} {base n c b i : Nat} {g : Nat → Bk} (o : OwnR be 3 w E base (.slice (Option.some ⟨b, 0, none⟩) n c) n g) (hi : i < n) (x : Bk) :
    OwnR be 3 (((w.setCell ⟨b, i * 3, none⟩ (.int .i64 x.c)).setCell ⟨b, i * 3 + 1, none⟩ (.int .i64 x.y)).setCell ⟨b, i * 3 + 2, none⟩ (.int .i64 x.a)) E base (.slice (Option.some ⟨b, 0, none⟩) n c) n (fun j => if j = i then x else g j) := by
  have h1 := o.setc be_len i 0 ⟨x.c, (g i).y, (g i).a⟩ (.int .i64 x.c) hi (by decide) (fun d hd => by
    match d, hd with
    | 0, h => exact absurd rfl h
    | 1, _ => rfl
    | 2, _ => rfl
    | d + 3, _ => rfl) rfl
  rw [Nat.add_zero] at h1
  have h2 := h1.setc be_len i 1 ⟨x.c, x.y, (g i).a⟩ (.int .i64 x.y) hi (by decide) (fun d hd => by
    rw [if_pos rfl]
    match d, hd with
    | 0, _ => rfl
    | 1, h => exact absurd rfl h
    | 2, _ => rfl
    | d + 3, _ => rfl) rfl
  have h3 := h2.setc be_len i 2 x (.int .i64 x.a) hi (by decide) (fun d hd => by
    rw [if_pos rfl]
    match d, hd with
    | 0, _ => rfl
    | 1, _ => rfl
    | 2, h => exact absurd rfl h
    | d + 3, _ => rfl) rfl
  refine h3.ext fun j hj => ?_
  by_cases e : j = i
  · rw [if_pos e, if_pos e]
  · rw [if_neg e, if_neg e, if_neg e, if_neg e]
/-- the buckets that rows are of -/
def ofW (f : Nat → Wy) : Nat → Bk := fun j => ⟨(f j).c, (f j).y, 0⟩
set_option maxHeartbeats 8000000 in
set_option maxRecDepth 100000 in
theorem pofrows {w : World} {A : Option Addr} {n c : Nat} {f : Nat → Wy} (h : AtR we 5 w A n f) (hn : n ≤ 1000000) :
    Calls Try.prog 51 #[.slice A n c] w fun e w' => ∃ A' c', e = .returned (.slice A' n c') ∧ n ≤ c' ∧ c' ≤ maxLen ∧ AtR be 3 w' A' n (ofW f) ∧ Below w.heap.size w w' := by
  have hmk := make_b n hn
  have HO0 := Lib.hid (made_b w n hn)
  have HR := Lib.hid h
  clear h
  go_enter Try.func51, Try.ntmps51
  go_wp2_with (simp only [hmk])
  go_loopg [11] n (fun gh i wr => ∃ (k : Nat) (g' : Nat → Bk), k ≤ n ∧ gh = n - k ∧ i = .int .i64 k ∧ w.heap.size < wr.heap.size ∧ (∀ j, j < k → g' j = ofW f j) ∧ OwnR be 3 wr 81 w.heap.size (.slice (some ⟨w.heap.size, 0, none⟩) n n) n g' ∧ Below w.heap.size w wr)
  case atStart => exact ⟨0, fun _ => ⟨0, 0, 0⟩, Nat.zero_le _, rfl, rfl, by simp, fun j hj => absurd hj (Nat.not_lt_zero _), HO0.out, (Below.refl _ _).alloc (Nat.le_refl _) _⟩
  case round =>
    obtain ⟨k, g', hk, hgk, rfl, hb8, hf, ho, hbw⟩ := hrel
    have HB8 := Lib.hid hb8
    have HGK := Lib.hid hgk
    have HW := Lib.hid hbw
    have HO := Lib.hid ho
    have HF := Lib.hid hf
    clear hgk hbw ho hf hmk HO0 hb8
    by_cases hlt : k < n
    · obtain ⟨b, off, rfl, hb, e0, e1, e2, e3, e4⟩ := (HR.out.below HW.out).five hlt
      obtain ⟨x0, hx0⟩ : ∃ x, (f k).c = x := ⟨_, rfl⟩
      obtain ⟨x1, hx1⟩ : ∃ x, (f k).y = x := ⟨_, rfl⟩
      obtain ⟨x2, hx2⟩ : ∃ x, (f k).o = x := ⟨_, rfl⟩
      obtain ⟨x3, hx3⟩ : ∃ x, (f k).m = x := ⟨_, rfl⟩
      obtain ⟨x4, hx4⟩ : ∃ x, (f k).k = x := ⟨_, rfl⟩
      rw [hx0] at e0
      rw [hx1] at e1
      rw [hx2] at e2
      rw [hx3] at e3
      rw [hx4] at e4
      have HX := Lib.hid (show ofW f k = ⟨x0, x1, 0⟩ by unfold ofW; rw [hx0, hx1])
      obtain ⟨_, _, e, _, _, _, hbs, hcell, hfz⟩ := HO.out.some be_len (by omega)
      injection e with e1' _ e3'
      injection e1' with e1'
      injection e1' with e1'
      subst e1' e3'
      have v0 := hcell k hlt 0 _ rfl
      have v1 := hcell k hlt 1 _ rfl
      have v2 := hcell k hlt 2 _ rfl
      rw [Nat.add_zero] at v0
      have z0 := hfz (k * 3)
      have z1 := hfz (k * 3 + 1)
      have z2 := hfz (k * 3 + 2)
      have i1 : (0 : Int) ≤ (k : Int) := by omega
      have i2 : (k : Int) < (n : Int) := by omega
      have HBS := Lib.hid hbs
      clear hcell hfz hx0 hx1 hx2 hx3 hx4
      go_wp2
      go_roundg (n - (k + 1))
      case measure => have := HGK.out; omega
      case rel => exact ⟨k + 1, _, by omega, rfl, by go_num, by have := HB8.out; simp; omega, fun j hj => (by
          show (if j = k then (⟨x0, x1, 0⟩ : Bk) else g' j) = ofW f j
          by_cases e : j = k
          · rw [if_pos e, e, HX.out]
          · rw [if_neg e]; exact HF.out j (by omega)), (HO.out.setb hlt ⟨x0, x1, 0⟩).alloc _, (((HW.out.setCell (Nat.le_refl _) _).setCell (Nat.le_refl _) _).setCell (Nat.le_refl _) _).alloc (by have := HW.out.size; simp; omega) _⟩
    · obtain rfl : k = n := by omega
      clear hlt
      go_wp2
      go_ret
      obtain ⟨A', c', e, h1, h2, _, h3⟩ := HO.out.at be_len
      injection e with e1 _ e3
      subst e1 e3
      exact ⟨_, _, rfl, h1, h2, h3.ext HF.out, HW.out⟩
end Go.Proofs.Ytmlafdehhbhbiaa

/- Package closing: rates at the opening. -/
namespace Go.Proofs.Ytmlafdehhbhbiaa
open Go.RowKit
theorem oldis_at {b : MBal} {S : Int → Int → Int} (h : BIs S b.n b.g) {c y now v : Int} (H : OldIs b c y now v) {k : Nat} (hk : k < b.n) (hc : (b.g k).c = c) (hy : (b.g k).y = y) : v = b.r k := by
  rcases H with ⟨k', h1, h2, h3, rfl⟩ | ⟨h1, _⟩
  · have : k' = k := by
      rcases Nat.lt_trichotomy k' k with q | q | q
      · have := h.1.asc k' k q hk; unfold Bl at this; omega
      · exact q
      · have := h.1.asc k k' q h1; unfold Bl at this; omega
    rw [this]
  · exact absurd ⟨hc, hy⟩ (h1 k hk)
set_option maxRecDepth 100000 in
theorem pold1 (z : Bk) (xc xy : Int) (B : Nat) (w : World) (hB : B < w.heap.size) (c0 : w.cell? ⟨B, 0, none⟩ = some (.int .i64 xc)) (c1 : w.cell? ⟨B, 1, none⟩ = some (.int .i64 xy)) :
    Calls Try.prog 75 #[ba z, ptr B] w fun e w' => e = .returned (.bool ((z.c == xc) && (z.y == xy))) ∧ Below w.heap.size w w' := by
  obtain ⟨zc, zy, za⟩ := z
  have hne : B ≠ w.heap.size := by omega
  simp only [ba] at *
  cases h1 : (zc == xc) <;> cases h2 : (zy == xy)
  all_goals
    go_enter Try.func75, Try.ntmps75
    go_wp2
    go_ret
    exact ⟨by simp, (Below.refl _ _).alloc (Nat.le_refl _) _⟩
set_option maxHeartbeats 4000000 in
set_option maxRecDepth 100000 in
theorem poldat (A : Option Addr) (n c B : Nat) (g : Nat → Bk) (xc xy : Int) (w : World) (hr : AtR be 3 w A n g) (hn : n ≤ 1000000) (hnc : n ≤ c) (hB : B < w.heap.size) (c0 : w.cell? ⟨B, 0, none⟩ = some (.int .i64 xc)) (c1 : w.cell? ⟨B, 1, none⟩ = some (.int .i64 xy)) :
    Calls Try.prog 74 #[.slice A n c, .func (.func 75) #[] #[ptr B]] w fun e w' => ((∃ p : Nat, p < n ∧ ((g p).c = xc ∧ (g p).y = xy) ∧ e = .returned (.int .i64 p)) ∨ ((∀ j, j < n → ¬ ((g j).c = xc ∧ (g j).y = xy)) ∧ e = .returned (.int .i64 (-1)))) ∧ Below w.heap.size w w' := by
  have HR := Lib.hid hr
  have C0 := Lib.hid c0
  have C1 := Lib.hid c1
  clear hr c0 c1
  go_enter Try.func74, Try.ntmps74
  go_wp2
  go_loopg [5, 8] n (fun gh _ i wr => ∃ k : Nat, k ≤ n ∧ gh = n - k ∧ i = .int .i64 k ∧ (∀ j, j < k → ¬ ((g j).c = xc ∧ (g j).y = xy)) ∧ Below w.heap.size w wr)
  case atStart => exact ⟨0, Nat.zero_le _, rfl, rfl, fun j hj => absurd hj (Nat.not_lt_zero _), Below.refl _ _⟩
  case round =>
    obtain ⟨k, hk, hgk, rfl, h0, hbw⟩ := hrel
    have HGK := Lib.hid hgk
    have HB := Lib.hid hbw
    have H0 := Lib.hid h0
    clear hgk hbw h0
    by_cases hlt : k < n
    · obtain ⟨b, off, rfl, hb, d0, d1, d2⟩ := (HR.out.below HB.out).three hlt
      have CL := Lib.hid (pold1 (g k) xc xy B wr (Nat.lt_of_lt_of_le hB HB.out.size) (cell_keep C0.out HB.out) (cell_keep C1.out HB.out))
      cases hq : (((g k).c == xc) && ((g k).y == xy))
      · rw [hq] at CL
        have HQ : Hid (¬ ((g k).c = xc ∧ (g k).y = xy)) := Lib.hid fun e => by rw [e.1, e.2] at hq; simp at hq
        clear hq
        go_wp2_with (go_at_call 75; (refine (CL.out).mono ?_); rintro e w' ⟨rfl, hb'⟩; have HB2 := Lib.hid (HB.out.trans (hb'.mono HB.out.size)); clear hb')
        go_roundg (n - (k + 1))
        case measure => have := HGK.out; omega
        case rel => exact ⟨k + 1, by omega, rfl, by go_num, fun j hj => by
            by_cases e : j = k
            · rw [e]; exact HQ.out
            · exact H0.out j (by omega), HB2.out⟩
      · rw [hq] at CL
        have HQ : Hid ((g k).c = xc ∧ (g k).y = xy) := Lib.hid (by simpa using hq)
        clear hq
        go_wp2_with (go_at_call 75; (refine (CL.out).mono ?_); rintro e w' ⟨rfl, hb'⟩; have HB2 := Lib.hid (HB.out.trans (hb'.mono HB.out.size)); clear hb')
        go_ret
        exact ⟨.inl ⟨k, hlt, HQ.out, rfl⟩, HB2.out⟩
    · obtain rfl : k = n := by omega
      clear hlt
      go_wp2
      go_ret
      exact ⟨.inr ⟨H0.out, rfl⟩, HB.out⟩
theorem at_nth {w : World} {A : Option Addr} {n : Nat} {g : Nat → Int} (h : At w A n g) {k : Nat} (hk : k < n) : ∃ b off, A = some ⟨b, off, none⟩ ∧ b < w.heap.size ∧ w.cell? ⟨b, off + k, none⟩ = some (.int .i64 (g k)) := by
  obtain ⟨b, off, e, hb, hc⟩ := h.some (by omega)
  exact ⟨b, off, e, hb, hc k hk⟩
set_option maxHeartbeats 8000000 in
set_option maxRecDepth 100000 in
theorem poldrates {w : World} {Q : List Value} {op : MBal} {ab ar A N : Option Addr} {cb cr c cn q : Nat} {f : Nat → Wy} {now was : Nat → Int} {S0 : Int → Int → Int} (ho : BalAt w op ⟨ab, cb⟩ ⟨ar, cr⟩) (iv : BIs S0 op.n op.g) (hn : op.n ≤ 1000) (hq : q ≤ 1000000)
    (q10 : Q[10]? = some (.slice ab op.n cb)) (q11 : Q[11]? = some (.slice ar op.n cr)) (q32 : Q[32]? = some (.slice A q c)) (q33 : Q[33]? = some (.slice N q cn)) (hc : q ≤ c) (hf : AtR we 5 w A q f) (hN : At w N q now) (H : ∀ k, k < q → OldIs op (f k).c (f k).y (now k) (was k)) :
    Calls Try.prog 53 #[.agg Q.toArray] w fun e w' => ∃ A' c', e = .returned (.slice A' q c') ∧ q ≤ c' ∧ c' ≤ maxLen ∧ At w' A' q was ∧ Below w.heap.size w w' := by
  obtain ⟨hb, hr, rows, rates⟩ := ho
  dsimp only at rows rates
  have h0 := heap_alloc_last w (.cells Q.toArray 44)
  have kb := (Below.refl w.heap.size w).alloc (Nat.le_refl _) (.cells Q.toArray 44)
  obtain ⟨wa, hwa⟩ : ∃ wa, w.alloc (.cells Q.toArray 44) = wa := ⟨_, rfl⟩
  have lt0 : w.heap.size < wa.heap.size := by rw [← hwa]; simp
  rw [hwa] at h0 kb
  have c10 : wa.cell? ⟨w.heap.size, 10, none⟩ = some (.slice ab op.n cb) := by rw [cell_of_row _ _ 10 _ _ _ h0]; simpa using q10
  have c11 : wa.cell? ⟨w.heap.size, 11, none⟩ = some (.slice ar op.n cr) := by rw [cell_of_row _ _ 11 _ _ _ h0]; simpa using q11
  have c32 : wa.cell? ⟨w.heap.size, 32, none⟩ = some (.slice A q c) := by rw [cell_of_row _ _ 32 _ _ _ h0]; simpa using q32
  have c33 : wa.cell? ⟨w.heap.size, 33, none⟩ = some (.slice N q cn) := by rw [cell_of_row _ _ 33 _ _ _ h0]; simpa using q33
  have HR := Lib.hid (rows.below kb)
  have HT := Lib.hid (rates.below kb)
  have HF := Lib.hid (hf.below kb)
  have CI := Lib.hid (ciclone (c := cn) (hN.below kb) hq)
  have HI := Lib.hid iv
  have HH := Lib.hid H
  have HWA := Lib.hid hwa
  have KB := Lib.hid kb
  have C10 := Lib.hid c10
  have C11 := Lib.hid c11
  have C32 := Lib.hid c32
  have hcb := hb.1
  have hcr := hr.1
  dsimp only at hcb hcr
  clear rows rates hf hN iv H hwa kb h0 q10 q11 q32 q33 c10 c11 c32 hb hr
  go_enter Try.func53, Try.ntmps53
  go_upto_region 1 with fail
  rw [HWA.out]
  go_wp2_with fail
  refine (CI.out).mono ?_
  rintro e w2 ⟨v2, rfl, o2, hb⟩
  obtain ⟨A2, c2, rfl, hc2, hm2, _⟩ := o2.at
  have HO2 := Lib.hid o2
  have W2 := Lib.hid hb
  have c32 : w2.cell? ⟨w.heap.size, 32, none⟩ = some (.slice A q c) := cell_keep C32.out hb
  have lt2 := Nat.lt_of_lt_of_le lt0 hb.size
  clear o2 hb CI c33
  go_wp2
  go_loopg [13] q (fun gh i wr => ∃ (k : Nat) (g' : Nat → Int), k ≤ q ∧ gh = q - k ∧ i = .int .i64 k ∧ (∀ j, j < k → g' j = was j) ∧ (∀ j, k ≤ j → j < q → g' j = now j) ∧ Own wr 3 wa.heap.size (.slice A2 q c2) q g' ∧ Below wa.heap.size wa wr)
  case atStart => exact ⟨0, now, Nat.zero_le _, rfl, rfl, fun j hj => absurd hj (Nat.not_lt_zero _), fun j _ _ => rfl, HO2.out, W2.out⟩
  case round =>
    obtain ⟨k, g', hk, hgk, rfl, hf1, hf2, ho, hbw⟩ := hrel
    have HGK := Lib.hid hgk
    have HW := Lib.hid hbw
    have HO := Lib.hid ho
    have HF1 := Lib.hid hf1
    have HF2 := Lib.hid hf2
    clear hgk hbw ho hf1 hf2 c32
    by_cases hlt : k < q
    · obtain ⟨b, off, rfl, hb, e0, e1, e2, e3, e4⟩ := (HF.out.below HW.out).five hlt
      have HK := Lib.hid (HH.out k hlt)
      obtain ⟨x0, hx0⟩ : ∃ x, (f k).c = x := ⟨_, rfl⟩
      obtain ⟨x1, hx1⟩ : ∃ x, (f k).y = x := ⟨_, rfl⟩
      obtain ⟨x2, hx2⟩ : ∃ x, (f k).o = x := ⟨_, rfl⟩
      obtain ⟨x3, hx3⟩ : ∃ x, (f k).m = x := ⟨_, rfl⟩
      obtain ⟨x4, hx4⟩ : ∃ x, (f k).k = x := ⟨_, rfl⟩
      rw [hx0] at e0 HK
      rw [hx1] at e1 HK
      rw [hx2] at e2
      rw [hx3] at e3
      rw [hx4] at e4
      have i1 : (0 : Int) ≤ (k : Int) := by omega
      have i2 : (k : Int) < (q : Int) := by omega
      have c10 : wr.cell? ⟨w.heap.size, 10, none⟩ = some (.slice ab op.n cb) := cell_keep C10.out HW.out
      have lw := Nat.lt_of_lt_of_le lt0 HW.out.size
      clear hx0 hx1 hx2 hx3 hx4
      go_upto_region 5 with fail
      have d0 := rec_lit wr [.int .i64 x0, .int .i64 x1, .int .i64 x2, .int .i64 x3, .int .i64 x4] 92 wr.heap.size rfl 0 _ rfl
      have d1 := rec_lit wr [.int .i64 x0, .int .i64 x1, .int .i64 x2, .int .i64 x3, .int .i64 x4] 92 wr.heap.size rfl 1 _ rfl
      have bb := (Below.refl wr.heap.size wr).alloc (Nat.le_refl _) (.cells #[.int .i64 x0, .int .i64 x1, .int .i64 x2, .int .i64 x3, .int .i64 x4] 92)
      have lb : wr.heap.size < (wr.alloc (.cells #[.int .i64 x0, .int .i64 x1, .int .i64 x2, .int .i64 x3, .int .i64 x4] 92)).heap.size := by simp
      generalize hwb : World.alloc wr _ = wb
      have hwb' : wr.alloc (.cells [.int .i64 x0, .int .i64 x1, .int .i64 x2, .int .i64 x3, .int .i64 x4].toArray 92) = wb := hwb
      rw [hwb'] at d0 d1
      rw [hwb] at bb lb
      have BB := Lib.hid bb
      have c10 := cell_keep c10 bb
      have CP := Lib.hid (poldat ab op.n cb wr.heap.size op.g x0 x1 wb ((HR.out.below HW.out).below bb) (by omega) hcb lb d0 d1)
      have HWB := Lib.hid (HW.out.trans (bb.mono HW.out.size))
      clear d0 d1 e0 e1 e2 e3 e4 hwb hwb' bb
      go_wp2_with fail
      refine (CP.out).mono ?_
      rintro e w5 ⟨⟨p, hp, hpp, rfl⟩ | ⟨hno, rfl⟩, hb5⟩
      · have HE := oldis_at HI.out HK.out hp hpp.1 hpp.2
        have HW5 := Lib.hid (HWB.out.trans (hb5.mono HWB.out.size))
        have HO5 := Lib.hid ((HO.out.below BB.out).below hb5)
        obtain ⟨u, off', rfl, hb', e0⟩ := at_nth (HT.out.below HW5.out) hp
        have c11 : w5.cell? ⟨w.heap.size, 11, none⟩ = some (.slice (some ⟨u, off', none⟩) op.n cr) := cell_keep C11.out HW5.out
        obtain ⟨z, hz⟩ : ∃ z, op.r p = z := ⟨_, rfl⟩
        rw [hz] at e0 HE
        have HE := Lib.hid HE
        obtain ⟨b2, c2', e, _, _, hbb, hrow⟩ := HO5.out.some (by omega)
        injection e with e1' _ e3'
        subst e1' e3'
        obtain ⟨v0, v1⟩ := hrow.2 k hlt
        have hbz := hrow.1
        obtain ⟨gk, hgk'⟩ : ∃ gk, g' k = gk := ⟨_, rfl⟩
        rw [hgk'] at v0
        have j1 : (0 : Int) ≤ (p : Int) := by omega
        have j2 : (p : Int) < (op.n : Int) := by omega
        have HB2 := Lib.hid hbb
        clear hz hrow hb5 CP hpp hgk'
        go_wp2
        go_roundg (q - (k + 1))
        case measure => have := HGK.out; omega
        case rel => exact ⟨k + 1, _, by omega, rfl, by go_num, fun j hj => (by
            show (if j = k then z else g' j) = was j
            by_cases e : j = k
            · rw [if_pos e, e, HE.out]
            · rw [if_neg e]; exact HF1.out j (by omega)), fun j h1 h2 => (by
            show (if j = k then z else g' j) = now j
            rw [if_neg (by omega)]; exact HF2.out j (by omega) h2), HO5.out.set k z, HW5.out.setCell HB2.out _⟩
      · have HE := Lib.hid (show was k = now k from by
          rcases HK.out with ⟨p, h1, h2, h3, _⟩ | ⟨_, h⟩
          · exact absurd ⟨h2, h3⟩ (hno p h1)
          · exact h)
        have HW5 := Lib.hid (HWB.out.trans (hb5.mono HWB.out.size))
        have HO5 := Lib.hid ((HO.out.below BB.out).below hb5)
        clear hno hb5 CP
        go_wp2
        go_roundg (q - (k + 1))
        case measure => have := HGK.out; omega
        case rel => exact ⟨k + 1, g', by omega, rfl, by go_num, fun j hj => (by
            by_cases e : j = k
            · rw [e, HE.out]; exact HF2.out k (Nat.le_refl _) hlt
            · exact HF1.out j (by omega)), fun j h1 h2 => HF2.out j (by omega) h2, HO5.out, HW5.out⟩
    · obtain rfl : k = q := by omega
      clear hlt
      go_wp2
      go_ret
      exact ⟨_, _, rfl, hc2, hm2, (own_at HO.out).ext HF1.out, KB.out.trans (HW.out.mono KB.out.size)⟩
end Go.Proofs.Ytmlafdehhbhbiaa

/- Package closing: whether all that is to be booked is money. -/
namespace Go.Proofs.Ytmlafdehhbhbiaa
open Go.RowKit
/-- a part of a list, by place -/
theorem part_at {l l' : List Value} {o n : Nat} (e : (l.drop o).take n = l') : ∀ (j : Nat) (u : Value), l'[j]? = some u → l[o + j]? = some u := fun j u hu => by
  rw [← e, List.getElem?_take] at hu
  split at hu
  · rwa [List.getElem?_drop] at hu
  · cases hu
theorem part_range {w : World} {b o n : Nat} {T : TypeId} {l l' : List Value} (h : w.heap[b]? = some (.cells l.toArray T (0, 0))) (e : (l.drop o).take n = l') : w.rangeAt b o l' := fun j u hu => by
  have := part_at e j u hu
  rw [cell_of_row _ _ _ _ _ _ h]; simpa using this
theorem pv_op (i : MIn) (op : MBal) (v : MPv) (s : Pss) : ((pvL i op v s).drop 9).take 8 = balL op s.ob s.or := rfl
theorem pv_cl (i : MIn) (op : MBal) (v : MPv) (s : Pss) : ((pvL i op v s).drop 17).take 8 = balL v.cl s.cb s.cr := rfl
theorem bal_len (b : MBal) (s1 s2 : Sl) : (balL b s1 s2).length = 8 := rfl
theorem bal_sizeL (b : MBal) (s1 s2 : Sl) : (Try.prog.info? 37).map (·.size) = some (balL b s1 s2).length := by
  rw [bal_len]; kernel_rfl
set_option maxHeartbeats 16000000 in
set_option maxRecDepth 100000 in
theorem pbookable {w : World} {i : MIn} {op : MBal} {v : MPv} {s : Pss} {ok : Bool} (b1 : 0 ≤ v.x.tax ∧ v.x.tax ≤ 100000000000) (b2 : Mon i.tu) (b3 : Mon op.tmp ∧ Mon v.cl.tmp) (b4 : Mon op.ls ∧ Mon v.cl.ls) (b5 : Mon op.al ∧ Mon v.cl.al) (H : ok = true ↔ ∀ k, k < 9 → Mon (finU i op v k)) :
    Calls Try.prog 57 #[.agg (pvL i op v s).toArray] w fun e w' => e = .returned (.bool ok) ∧ Below w.heap.size w w' := by
  have h0 := heap_alloc_last w (.cells (pvL i op v s).toArray 44)
  have kb := (Below.refl w.heap.size w).alloc (Nat.le_refl _) (.cells (pvL i op v s).toArray 44)
  obtain ⟨wa, hwa⟩ : ∃ wa, w.alloc (.cells (pvL i op v s).toArray 44) = wa := ⟨_, rfl⟩
  have lt0 : w.heap.size < wa.heap.size := by rw [← hwa]; simp
  rw [hwa] at h0 kb
  have H0 := Lib.hid h0
  have KB := Lib.hid kb
  have HWA := Lib.hid hwa
  have HH := Lib.hid H
  unfold Mon at b2 b3 b4 b5
  clear h0 kb hwa H
  go_enter Try.func57, Try.ntmps57
  go_upto_region 1 with fail
  rw [HWA.out]
  go_cut [3, 4] (fun s3 s4 wx => ∃ X Y, s3 = ptr X ∧ s4 = ptr Y ∧ X ≠ Y ∧ wa.heap.size ≤ X ∧ wa.heap.size ≤ Y ∧ Below wa.heap.size wa wx ∧ wx.heap[X]? = some (.cells (balL op s.ob s.or).toArray 37 (0, 0)) ∧ wx.heap[Y]? = some (.cells (balL v.cl s.cb s.cr).toArray 37 (0, 0)))
  case first => as_aux_lemma =>
    refine wp_region_noPanic ?_
    refine AnyTill.begin (C := fun w' => w'.rangeAt w.heap.size 9 (balL op s.ob s.or) ∧ w'.rangeAt w.heap.size 17 (balL v.cl s.cb s.cr)) (q := 99) (by kernel_rfl) ?_
    obtain ⟨wd, hwd⟩ : ∃ wd, wa.drew = wd := ⟨_, rfl⟩
    have kd : Below wa.heap.size wa wd := by rw [← hwd]; exact below_drew wa
    rw [hwd]
    have HC2 := Lib.hid fun (w5 : World) (k : Below wa.heap.size wa w5) => (show w5.rangeAt w.heap.size 9 (balL op s.ob s.or) ∧ w5.rangeAt w.heap.size 17 (balL v.cl s.cb s.cr) from ⟨part_range ((k.block _ lt0).trans H0.out) (pv_op i op v s), part_range ((k.block _ lt0).trans H0.out) (pv_cl i op v s)⟩)
    have scd := HC2.out wd kd
    refine AnyTill.tk 0 scd ?_
    refine AnyTill.tv (i := 1) (v := .agg (balL op s.ob s.or).toArray) (hy := (yieldsIf_load_mid (by rfl) 37 (.tmp 7) rfl w.heap.size 9 rfl (balL op s.ob s.or) _ (fun _ h => h.1) Try.underlying37 rfl (bal_sizeL _ _ _))) (hC := scd) (h := ?_)
    refine AnyTill.tk 2 scd ?_
    refine AnyTill.tv (i := 3) (v := .agg (balL v.cl s.cb s.cr).toArray) (hy := (yieldsIf_load_mid (by rfl) 37 (.tmp 9) rfl w.heap.size 17 rfl (balL v.cl s.cb s.cr) _ (fun _ h => h.2) Try.underlying37 rfl (bal_sizeL _ _ _))) (hC := scd) (h := ?_)
    refine' AnyTill.two (i := 4) (k := 5) (o := _) (o' := _) (by kernel_rfl) ?a4 ?a5 (fun K' hK => ?x4) (fun K' hK => ?x5)
    case a4 => (simp only [List.getElem?_toArray, List.getElem?_cons_succ, List.getElem?_cons_zero]; rfl)
    case a5 => (simp only [List.getElem?_toArray, List.getElem?_cons_succ, List.getElem?_cons_zero]; rfl)
    case x4 =>
      go_simp
      generalize hap : World.alloc wd _ = v1
      have g1 : v1.heap[wd.heap.size]? = some (.cells (balL bal0 .nil .nil).toArray 37 (0, 0)) := by rw [← hap]; exact heap_alloc_last _ _
      have k1 : Below wd.heap.size wd v1 := by rw [← hap]; exact (Below.refl _ _).alloc (Nat.le_refl _) _
      have l1 : wd.heap.size < v1.heap.size := by rw [← hap]; simp
      have s1 := kd.size
      have z1 := k1.size
      have k1 := kd.trans (k1.mono kd.size)
      clear hap
      refine hK.out _ _ (.inr (HC2.out _ k1)) ?_
      clear hK K'
      try simp only [pt]
      refine AnyTill.on 5 fun K' hK => ?_
      go_simp
      generalize hap : World.alloc v1 _ = v2
      have g2 : v2.heap[v1.heap.size]? = some (.cells (balL bal0 .nil .nil).toArray 37 (0, 0)) := by rw [← hap]; exact heap_alloc_last _ _
      have k2 : Below v1.heap.size v1 v2 := by rw [← hap]; exact (Below.refl _ _).alloc (Nat.le_refl _) _
      have g1 := (k2.block _ l1).trans g1
      have k2 := k1.trans (k2.mono k1.size)
      clear hap
      refine hK.out _ _ (.inr (HC2.out _ k2)) ?_
      clear hK K'
      try simp only [pt]
      refine AnyTill.on 6 fun K' hK => ?_
      rw [if_pos (by rfl)]
      refine wp_store_row 37 (.tmp 3) (.tmp 8) rfl (wd.heap.size) (balL op s.ob s.or).toArray rfl rfl _ _ g1 (bal_size _ _ _) rfl (bal_one _ _ _) ?_
      have k3 := below_setRow k2 (g := wd.heap.size) kd.size (balL op s.ob s.or).toArray
      have hx : (v2.setRow (wd.heap.size) (balL op s.ob s.or).toArray).heap[wd.heap.size]? = some (.cells (balL op s.ob s.or).toArray 37 (0, 0)) := setRow_heap _ _ _ _ _ _ g1
      have hy : (v2.setRow (wd.heap.size) (balL op s.ob s.or).toArray).heap[v1.heap.size]? = _ := (setRow_other _ _ _ _ (by omega)).trans g2
      refine hK.out _ _ (.inr (HC2.out _ k3)) ?_
      clear hK K'
      try simp only [pt]
      refine AnyTill.on 7 fun K' hK => ?_
      rw [if_pos (by rfl)]
      refine wp_store_row 37 (.tmp 4) (.tmp 10) rfl (v1.heap.size) (balL v.cl s.cb s.cr).toArray rfl rfl _ _ hy (bal_size _ _ _) rfl (bal_one _ _ _) ?_
      have k4 := below_setRow k3 (g := v1.heap.size) k1.size (balL v.cl s.cb s.cr).toArray
      refine hK.out _ _ (.inr (HC2.out _ k4)) ?_
      clear hK K'
      try simp only [pt]
      refine AnyTill.done (by kernel_rfl) ?_ _
      refine NoPanic.normal ?_
      go_wp2
      go_meet
      exact ⟨wd.heap.size, v1.heap.size, rfl, rfl, by omega, kd.size, k1.size, k4, (setRow_other _ _ _ _ (by omega)).trans hx, setRow_heap _ _ _ _ _ _ hy⟩
    case x5 =>
      go_simp
      generalize hap : World.alloc wd _ = v1
      have g1 : v1.heap[wd.heap.size]? = some (.cells (balL bal0 .nil .nil).toArray 37 (0, 0)) := by rw [← hap]; exact heap_alloc_last _ _
      have k1 : Below wd.heap.size wd v1 := by rw [← hap]; exact (Below.refl _ _).alloc (Nat.le_refl _) _
      have l1 : wd.heap.size < v1.heap.size := by rw [← hap]; simp
      have s1 := kd.size
      have z1 := k1.size
      have k1 := kd.trans (k1.mono kd.size)
      clear hap
      refine hK.out _ _ (.inr (HC2.out _ k1)) ?_
      clear hK K'
      try simp only [pt]
      refine AnyTill.on 4 fun K' hK => ?_
      go_simp
      generalize hap : World.alloc v1 _ = v2
      have g2 : v2.heap[v1.heap.size]? = some (.cells (balL bal0 .nil .nil).toArray 37 (0, 0)) := by rw [← hap]; exact heap_alloc_last _ _
      have k2 : Below v1.heap.size v1 v2 := by rw [← hap]; exact (Below.refl _ _).alloc (Nat.le_refl _) _
      have g1 := (k2.block _ l1).trans g1
      have k2 := k1.trans (k2.mono k1.size)
      clear hap
      refine hK.out _ _ (.inr (HC2.out _ k2)) ?_
      clear hK K'
      try simp only [pt]
      refine AnyTill.on 6 fun K' hK => ?_
      rw [if_pos (by rfl)]
      refine wp_store_row 37 (.tmp 3) (.tmp 8) rfl (v1.heap.size) (balL op s.ob s.or).toArray rfl rfl _ _ g2 (bal_size _ _ _) rfl (bal_one _ _ _) ?_
      have k3 := below_setRow k2 (g := v1.heap.size) k1.size (balL op s.ob s.or).toArray
      have hx : (v2.setRow (v1.heap.size) (balL op s.ob s.or).toArray).heap[v1.heap.size]? = some (.cells (balL op s.ob s.or).toArray 37 (0, 0)) := setRow_heap _ _ _ _ _ _ g2
      have hy : (v2.setRow (v1.heap.size) (balL op s.ob s.or).toArray).heap[wd.heap.size]? = _ := (setRow_other _ _ _ _ (by omega)).trans g1
      refine hK.out _ _ (.inr (HC2.out _ k3)) ?_
      clear hK K'
      try simp only [pt]
      refine AnyTill.on 7 fun K' hK => ?_
      rw [if_pos (by rfl)]
      refine wp_store_row 37 (.tmp 4) (.tmp 10) rfl (wd.heap.size) (balL v.cl s.cb s.cr).toArray rfl rfl _ _ hy (bal_size _ _ _) rfl (bal_one _ _ _) ?_
      have k4 := below_setRow k3 (g := wd.heap.size) kd.size (balL v.cl s.cb s.cr).toArray
      refine hK.out _ _ (.inr (HC2.out _ k4)) ?_
      clear hK K'
      try simp only [pt]
      refine AnyTill.done (by kernel_rfl) ?_ _
      refine NoPanic.normal ?_
      go_wp2
      go_meet
      exact ⟨v1.heap.size, wd.heap.size, rfl, rfl, by omega, k1.size, kd.size, k4, (setRow_other _ _ _ _ (by omega)).trans hx, setRow_heap _ _ _ _ _ _ hy⟩
  case rest =>
    as_aux_lemma =>
    obtain ⟨X, Y, rfl, rfl, hXY, _, _, kx, gx, gy⟩ := hcut
    have P0 := Lib.hid ((kx.block _ lt0).trans H0.out)
    have GX := Lib.hid gx
    have GY := Lib.hid gy
    have KX := Lib.hid kx
    have KW := Lib.hid (KB.out.trans (kx.mono KB.out.size))
    have d7 : wc.cell? ⟨w.heap.size, 7, none⟩ = some (.int .i64 i.tu) := cell_of_row _ _ 7 _ _ _ P0.out
    have d30 : wc.cell? ⟨w.heap.size, 30, none⟩ = some (.int .i64 v.x.tax) := cell_of_row _ _ 30 _ _ _ P0.out
    have d36 : wc.cell? ⟨w.heap.size, 36, none⟩ = some (.int .i64 v.lm) := cell_of_row _ _ 36 _ _ _ P0.out
    have d37 : wc.cell? ⟨w.heap.size, 37, none⟩ = some (.int .i64 v.lr) := cell_of_row _ _ 37 _ _ _ P0.out
    have d38 : wc.cell? ⟨w.heap.size, 38, none⟩ = some (.int .i64 v.am) := cell_of_row _ _ 38 _ _ _ P0.out
    have d39 : wc.cell? ⟨w.heap.size, 39, none⟩ = some (.int .i64 v.df) := cell_of_row _ _ 39 _ _ _ P0.out
    have d40 : wc.cell? ⟨w.heap.size, 40, none⟩ = some (.int .i64 v.tt) := cell_of_row _ _ 40 _ _ _ P0.out
    have x5 : wc.cell? ⟨X, 5, none⟩ = some (.int .i64 op.tmp) := cell_of_row _ _ 5 _ _ _ GX.out
    have x6 : wc.cell? ⟨X, 6, none⟩ = some (.int .i64 op.ls) := cell_of_row _ _ 6 _ _ _ GX.out
    have x7 : wc.cell? ⟨X, 7, none⟩ = some (.int .i64 op.al) := cell_of_row _ _ 7 _ _ _ GX.out
    have y5 : wc.cell? ⟨Y, 5, none⟩ = some (.int .i64 v.cl.tmp) := cell_of_row _ _ 5 _ _ _ GY.out
    have y6 : wc.cell? ⟨Y, 6, none⟩ = some (.int .i64 v.cl.ls) := cell_of_row _ _ 6 _ _ _ GY.out
    have y7 : wc.cell? ⟨Y, 7, none⟩ = some (.int .i64 v.cl.al) := cell_of_row _ _ 7 _ _ _ GY.out
    obtain ⟨w2, rfl⟩ : ∃ x, x = wc := ⟨_, rfl⟩
    have bl := (Below.refl w2.heap.size w2).alloc (Nat.le_refl _) (.cells #[.int .i64 v.lm, .int .i64 v.lr, .int .i64 v.am, .int .i64 (v.x.tax + i.tu), .int .i64 (v.cl.tmp - op.tmp), .int .i64 (v.cl.ls - op.ls), .int .i64 (v.cl.al - op.al), .int .i64 v.df, .int .i64 v.tt] 3)
    have row : Row (w2.alloc (.cells #[.int .i64 v.lm, .int .i64 v.lr, .int .i64 v.am, .int .i64 (v.x.tax + i.tu), .int .i64 (v.cl.tmp - op.tmp), .int .i64 (v.cl.ls - op.ls), .int .i64 (v.cl.al - op.al), .int .i64 v.df, .int .i64 v.tt] 3)) w2.heap.size 9 (fun j => [v.lm, v.lr, v.am, v.x.tax + i.tu, v.cl.tmp - op.tmp, v.cl.ls - op.ls, v.cl.al - op.al, v.df, v.tt].getD j 0) := lit_row w2 [v.lm, v.lr, v.am, v.x.tax + i.tu, v.cl.tmp - op.tmp, v.cl.ls - op.ls, v.cl.al - op.al, v.df, v.tt] 3
    obtain ⟨wl, hwl⟩ : ∃ wl, w2.alloc (.cells #[.int .i64 v.lm, .int .i64 v.lr, .int .i64 v.am, .int .i64 (v.x.tax + i.tu), .int .i64 (v.cl.tmp - op.tmp), .int .i64 (v.cl.ls - op.ls), .int .i64 (v.cl.al - op.al), .int .i64 v.df, .int .i64 v.tt] 3) = wl := ⟨_, rfl⟩
    rw [hwl] at row bl
    have HWL := Lib.hid hwl
    have ROW := Lib.hid row
    have KL := Lib.hid (KW.out.trans (bl.mono KW.out.size))
    have EF : Hid (∀ j, j < 9 → finU i op v j = [v.lm, v.lr, v.am, v.x.tax + i.tu, v.cl.tmp - op.tmp, v.cl.ls - op.ls, v.cl.al - op.al, v.df, v.tt].getD j 0) := Lib.hid fun j hj => by
      rcases (show j = 0 ∨ j = 1 ∨ j = 2 ∨ j = 3 ∨ j = 4 ∨ j = 5 ∨ j = 6 ∨ j = 7 ∨ j = 8 by omega) with rfl | rfl | rfl | rfl | rfl | rfl | rfl | rfl | rfl <;> rfl
    clear bl row hwl
    go_upto_region 2 with fail
    go_cut [43, 44, 45] (fun s43 s44 s45 wx => s43 = .slice (some ⟨w2.heap.size, 0, none⟩) 9 9 ∧ s44 = .int .i64 9 ∧ s45 = .int .i64 0 ∧ wx = wl)
    case first => as_aux_lemma =>
      clear ROW EF
      go_wp2_with ((with_reducible show wpList _ _ _ _ _ _); (refine wpList_given rfl (build9 rfl _ (z0 := v.lm) (z1 := v.lr) (z2 := v.am) (z3 := v.x.tax + i.tu) (z4 := v.cl.tmp - op.tmp) (z5 := v.cl.ls - op.ls) (z6 := v.cl.al - op.al) (z7 := v.df) (z8 := v.tt) rfl rfl rfl rfl rfl rfl rfl rfl rfl w2) ?_); rw [HWL.out])
      go_meet
      exact ⟨rfl, rfl, rfl, rfl⟩
    case rest =>
    obtain ⟨rfl, rfl, rfl, rfl⟩ := hcut
    obtain ⟨wl, rfl⟩ : ∃ x, x = wc := ⟨_, rfl⟩
    clear HWL d7 d30 d36 d37 d38 d39 d40 x5 x6 x7 y5 y6 y7
    go_wp2
    go_loopg [45] 9 (fun gh s45 wr => ∃ n : Nat, n ≤ 9 ∧ gh = 9 - n ∧ s45 = .int .i64 n ∧ (∀ j, j < n → Mon ([v.lm, v.lr, v.am, v.x.tax + i.tu, v.cl.tmp - op.tmp, v.cl.ls - op.ls, v.cl.al - op.al, v.df, v.tt].getD j 0)) ∧ Below wl.heap.size wl wr)
    case atStart => exact ⟨0, Nat.zero_le _, rfl, rfl, fun j hj => absurd hj (Nat.not_lt_zero _), Below.refl _ _⟩
    case round =>
      obtain ⟨n, hn, hgn, rfl, hall, hbw⟩ := hrel
      have HGN := Lib.hid hgn
      have HALL := Lib.hid hall
      have HBW := Lib.hid hbw
      clear hgn hall hbw
      by_cases hlt : n < 9
      · have cn0 : wr.cell? ⟨w2.heap.size, n, none⟩ = some (.int .i64 ([v.lm, v.lr, v.am, v.x.tax + i.tu, v.cl.tmp - op.tmp, v.cl.ls - op.ls, v.cl.al - op.al, v.df, v.tt].getD n 0)) := ((ROW.out.below HBW.out).2 n hlt).1
        obtain ⟨y, hy⟩ : ∃ y, [v.lm, v.lr, v.am, v.x.tax + i.tu, v.cl.tmp - op.tmp, v.cl.ls - op.ls, v.cl.al - op.al, v.df, v.tt].getD n 0 = y := ⟨_, rfl⟩
        rw [hy] at cn0
        have i0 : (0 : Int) ≤ (n : Int) := by omega
        have i1 : (n : Int) < 9 := by omega
        by_cases hm : Mon y
        · have QM := Lib.hid hm
          have HY := Lib.hid hy
          clear hm hy
          go_wp2_with (first | (go_at_call 20; (with_reducible refine (mny_yes _ _ QM.out).mono ?_); rintro e w' ⟨rfl, rfl⟩))
          go_roundg (9 - (n + 1))
          case measure => have := HGN.out; omega
          case rel => exact ⟨n + 1, by omega, rfl, by go_num, fun j hj => by
            by_cases e : j = n
            · rw [e, HY.out]; exact QM.out
            · exact HALL.out j (by omega), HBW.out⟩
        · have QM := Lib.hid hm
          obtain rfl : ok = false := by
            cases ok with
            | false => rfl
            | true =>
              have h9 := HH.out.1 rfl n hlt
              rw [EF.out n hlt, hy] at h9
              exact absurd h9 hm
          clear hm hy
          go_wp2_with (first | (go_at_call 20; (with_reducible refine (mny_no _ _ QM.out).mono ?_); rintro e w' ⟨rfl, rfl⟩))
          go_ret
          exact ⟨rfl, KL.out.trans (HBW.out.mono KL.out.size)⟩
      · obtain rfl : n = 9 := by omega
        obtain rfl : ok = true := HH.out.2 fun j hj => by rw [EF.out j hj]; exact HALL.out j hj
        clear hlt
        go_wp2
        go_ret
        exact ⟨rfl, KL.out.trans (HBW.out.mono KL.out.size)⟩
end Go.Proofs.Ytmlafdehhbhbiaa

/- Package closing: rates that are known; a list measured. -/
namespace Go.Proofs.Ytmlafdehhbhbiaa
open Go.RowKit
section
variable {w : World} {O : Nat → Nat} {base t tb nr m c : Nat} {vt : Value} {R : Nat → Rt} {i : MIn} {A A' : Option Addr} {g : Nat → Bk} {rs : Nat → Int} {nx : Int}
set_option maxHeartbeats 8000000 in
set_option maxRecDepth 100000 in
theorem pknown (s : TabV 57 w O base t tb vt nr R) (hr : AtR be 3 w A m g) (hc : m ≤ c ∧ c ≤ maxLen) (hm : m ≤ 1000) (ha : MArg i) (KX : Known R nr i.j (min (i.p / 4 + 1) 99) i.p nx true) (KR : ∀ k, k < m → Known R nr i.j (max (g k).y (i.p / 4)) i.p (rs k) true) :
    Calls Try.prog 23 #[ptr tb, .agg (inL i).toArray, .slice A m c] w fun e w' => ∃ A' c', e = .returned (.tuple #[.agg (balL ⟨i.p, m, g, rs, nx, 0, 0, 0, 0⟩ ⟨A, c⟩ ⟨A', c'⟩).toArray, .int .i64 0]) ∧ m ≤ c' ∧ c' ≤ maxLen ∧ At w' A' m rs ∧ Free (fun _ => 0) w.heap.size w' A' ∧ Below w.heap.size w w' := by
  have h0 : ((w.alloc (.cells (inL i).toArray 31)).alloc (.cells (balL bal0 .nil .nil).toArray 37)).heap[w.heap.size]? = some (.cells (inL i).toArray 31 (0, 0)) := by
    rw [heap_alloc_old _ _ (by simp)]; exact heap_alloc_last w _
  have z : (w.alloc (.cells (inL i).toArray 31)).heap.size = w.heap.size + 1 := by simp
  have h1 := heap_alloc_last (w.alloc (.cells (inL i).toArray 31)) (.cells (balL bal0 .nil .nil).toArray 37)
  rw [z] at h1
  have kb := ((Below.refl w.heap.size w).alloc (Nat.le_refl _) (.cells (inL i).toArray 31)).alloc (by omega) (.cells (balL bal0 .nil .nil).toArray 37)
  obtain ⟨wa, hwa⟩ : ∃ wa, (w.alloc (.cells (inL i).toArray 31)).alloc (.cells (balL bal0 .nil .nil).toArray 37) = wa := ⟨_, rfl⟩
  rw [hwa] at h0 h1 kb
  have H0 := Lib.hid h0
  have H1 := Lib.hid h1
  have KB := Lib.hid kb
  have HWA := Lib.hid (show (w.alloc (.cells (inL i).toArray 31)).alloc (.cells #[.int .i64 0, .slice none 0 0, .slice none 0 0, .int .i64 0, .int .i64 0, .int .i64 0, .int .i64 0, .int .i64 0] 37) = wa from hwa)
  have CX := Lib.hid fun w5 (k : Below w.heap.size w w5) => pnext_any (s.below k) i.j i.p nx 0 (.inr (.inr ⟨ha.1, rfl, KX⟩))
  have CS := Lib.hid fun w5 (k : Below w.heap.size w w5) => prates_any (s.below k) i.j A m c g (hr.below k) hc hm i.p 0 m rs (.inr (.inr ⟨ha.1, rfl, rfl, KR⟩))
  have c0 : wa.cell? ⟨w.heap.size, 0, none⟩ = some (.string i.j) := cell_of_row _ _ 0 _ _ _ h0
  have c1 : wa.cell? ⟨w.heap.size, 1, none⟩ = some (.int .i64 i.p) := cell_of_row _ _ 1 _ _ _ h0
  have lt0 := (Array.getElem?_eq_some_iff.1 h0).1
  have lt1 := (Array.getElem?_eq_some_iff.1 h1).1
  clear s hr ha KX KR h0 h1 kb z hwa
  go_enter Try.func23, Try.ntmps23
  go_upto_region 1 with fail
  rw [HWA.out]
  go_wp2_with fail
  refine (CX.out _ KB.out).mono ?_
  rintro e w2 ⟨rfl, hb⟩
  have K2 := Lib.hid (KB.out.trans (hb.mono KB.out.size))
  have B0 := Lib.hid ((hb.block _ lt0).trans H0.out)
  have B1 := Lib.hid ((hb.block _ lt1).trans H1.out)
  have lw2 := Nat.lt_of_lt_of_le lt1 hb.size
  clear hb CX c0 c1
  have c0 : w2.cell? ⟨w.heap.size, 0, none⟩ = some (.string i.j) := cell_of_row _ _ 0 _ _ _ B0.out
  have c1 : w2.cell? ⟨w.heap.size, 1, none⟩ = some (.int .i64 i.p) := cell_of_row _ _ 1 _ _ _ B0.out
  go_wp2_with fail
  refine (CS.out _ K2.out).mono ?_
  rintro e w3 ⟨v3, rfl, o3, hb⟩
  obtain ⟨A3, c3, rfl, hc3, hm3, _⟩ := o3.at
  have HO3 := Lib.hid o3
  have K3 := Lib.hid (K2.out.trans (hb.mono K2.out.size))
  have D0 := Lib.hid ((hb.block _ (by omega)).trans B0.out)
  have D1 := Lib.hid ((hb.block _ lw2).trans B1.out)
  have L2 := Lib.hid K2.out.size
  clear hb CS c0 c1 o3
  have c1 : w3.cell? ⟨w.heap.size, 1, none⟩ = some (.int .i64 i.p) := cell_of_row _ _ 1 _ _ _ D0.out
  go_wp2_with (first | ((with_reducible show wpList _ _ _ _ _ _); (refine wpList_store_row rfl 37 (.tmp 6) (.tmp 43) rfl (w.heap.size + 1) (balL ⟨i.p, m, g, rs, nx, 0, 0, 0, 0⟩ ⟨A, c⟩ ⟨A3, c3⟩).toArray rfl rfl _ _ D1.out (bal_size ⟨i.p, m, g, rs, nx, 0, 0, 0, 0⟩ ⟨A, c⟩ ⟨A3, c3⟩) rfl (bal_one _ _ _) ?_)))
  (try simp only [Exit.inBlock, Exit.then])
  refine bodyPost_ret (results_ct rfl _ _ (w.heap.size + 1) _ rfl (run_loadVar_row _ _ _ _ _ (0, 0) _ (setRow_heap _ _ _ _ _ _ D1.out) Try.underlying37 rfl (bal_size ⟨i.p, m, g, rs, nx, 0, 0, 0, 0⟩ ⟨A, c⟩ ⟨A3, c3⟩))) rfl ?_
  have q := own_off HO3.out lw2 (balL ⟨i.p, m, g, rs, nx, 0, 0, 0, 0⟩ ⟨A, c⟩ ⟨A3, c3⟩).toArray
  exact ⟨A3, c3, rfl, hc3, hm3, own_at q, (own_free q).wide L2.out, below_setRow K3.out (by omega) _⟩
end
section
variable {w : World} {p : Int} {m c c' : Nat} {A A' : Option Addr} {g : Nat → Bk} {rs : Nat → Int} {nx left jd tmp ls al : Int}
set_option maxHeartbeats 8000000 in
set_option maxRecDepth 100000 in
theorem pmeas_no (hr : AtR be 3 w A m g) (hr' : At w A' m rs) (hm : m ≤ 1000) (hc : m ≤ c ∧ c ≤ maxLen) (hc' : m ≤ c' ∧ c' ≤ maxLen) (H : TempIs g m rs m 0 6) :
    Calls Try.prog 26 #[.agg (balL ⟨p, m, g, rs, nx, 0, 0, 0, 0⟩ ⟨A, c⟩ ⟨A', c'⟩).toArray, .int .i64 left, .int .i64 jd] w fun e w' => e = .returned (.tuple #[.agg (balL bal0 .nil .nil).toArray, .int .i64 6]) ∧ Below w.heap.size w w' := by
  have CT := Lib.hid fun w5 (k : Below w.heap.size w w5) => ptemp_any A A' m c m c' g rs 0 6 w5 (hr.below k) (hr'.below k) hm hc hc' H
  have h0 : ((w.alloc (.cells (balL ⟨p, m, g, rs, nx, 0, 0, 0, 0⟩ ⟨A, c⟩ ⟨A', c'⟩).toArray 37)).alloc (.cells (balL bal0 .nil .nil).toArray 37)).heap[w.heap.size]? = some (.cells (balL ⟨p, m, g, rs, nx, 0, 0, 0, 0⟩ ⟨A, c⟩ ⟨A', c'⟩).toArray 37 (0, 0)) := (by rw [heap_alloc_old _ _ (by simp)]; exact heap_alloc_last w _); have z : (w.alloc (.cells (balL ⟨p, m, g, rs, nx, 0, 0, 0, 0⟩ ⟨A, c⟩ ⟨A', c'⟩).toArray 37)).heap.size = w.heap.size + 1 := (by simp); have h1 := heap_alloc_last (w.alloc (.cells (balL ⟨p, m, g, rs, nx, 0, 0, 0, 0⟩ ⟨A, c⟩ ⟨A', c'⟩).toArray 37)) (.cells (balL bal0 .nil .nil).toArray 37); rw [z] at h1; have kb := ((Below.refl w.heap.size w).alloc (Nat.le_refl _) (.cells (balL ⟨p, m, g, rs, nx, 0, 0, 0, 0⟩ ⟨A, c⟩ ⟨A', c'⟩).toArray 37)).alloc (by omega) (.cells (balL bal0 .nil .nil).toArray 37); obtain ⟨wa, hwa⟩ : ∃ wa, (w.alloc (.cells (balL ⟨p, m, g, rs, nx, 0, 0, 0, 0⟩ ⟨A, c⟩ ⟨A', c'⟩).toArray 37)).alloc (.cells (balL bal0 .nil .nil).toArray 37) = wa := ⟨_, rfl⟩; rw [hwa] at h0 h1 kb; have H0 := Lib.hid h0; have H1 := Lib.hid h1; have KB := Lib.hid kb; have HWA := Lib.hid (show (w.alloc (.cells (balL ⟨p, m, g, rs, nx, 0, 0, 0, 0⟩ ⟨A, c⟩ ⟨A', c'⟩).toArray 37)).alloc (.cells #[.int .i64 0, .slice none 0 0, .slice none 0 0, .int .i64 0, .int .i64 0, .int .i64 0, .int .i64 0, .int .i64 0] 37) = wa from hwa); have c1 : wa.cell? ⟨w.heap.size, 1, none⟩ = some (.slice A m c) := cell_of_row _ _ 1 _ _ _ h0; have c2 : wa.cell? ⟨w.heap.size, 2, none⟩ = some (.slice A' m c') := cell_of_row _ _ 2 _ _ _ h0; have lt0 := (Array.getElem?_eq_some_iff.1 h0).1; have lt1 := (Array.getElem?_eq_some_iff.1 h1).1; clear h0 h1 kb z hwa
  clear hr hr' H
  go_enter Try.func26, Try.ntmps26
  go_upto_region 1 with fail
  rw [HWA.out]
  go_wp2_with fail
  refine (CT.out _ KB.out).mono ?_
  rintro e w2 ⟨rfl, hb⟩
  have K2 := Lib.hid (KB.out.trans (hb.mono KB.out.size))
  have B1 := Lib.hid ((hb.block _ lt1).trans H1.out)
  clear hb CT c1 c2
  go_wp2_with (first | ((with_reducible show wpList _ _ _ _ _ _); (refine wpList_store_row rfl 37 (.tmp 6) (.tmp 22) rfl (w.heap.size + 1) (balL bal0 .nil .nil).toArray rfl rfl _ _ B1.out (bal_size bal0 .nil .nil) rfl (bal_one _ _ _) ?_)))
  (try simp only [Exit.inBlock, Exit.then])
  exact bodyPost_ret (results_ct rfl _ _ (w.heap.size + 1) _ rfl (run_loadVar_row _ _ _ _ _ (0, 0) _ (setRow_heap _ _ _ _ _ _ B1.out) Try.underlying37 rfl (bal_size bal0 .nil .nil))) rfl ⟨rfl, below_setRow K2.out (by omega) _⟩
set_option maxHeartbeats 8000000 in
set_option maxRecDepth 100000 in
theorem pmeas_ok (hr : AtR be 3 w A m g) (hr' : At w A' m rs) (hm : m ≤ 1000) (hc : m ≤ c ∧ c ≤ maxLen) (hc' : m ≤ c' ∧ c' ≤ maxLen) (H : TempIs g m rs m tmp 0) (HL : ShareIs left nx ls 0) (HA : AlwIs ls jd al 0) :
    Calls Try.prog 26 #[.agg (balL ⟨p, m, g, rs, nx, 0, 0, 0, 0⟩ ⟨A, c⟩ ⟨A', c'⟩).toArray, .int .i64 left, .int .i64 jd] w fun e w' => e = .returned (.tuple #[.agg (balL ⟨p, m, g, rs, nx, left, tmp, ls, al⟩ ⟨A, c⟩ ⟨A', c'⟩).toArray, .int .i64 0]) ∧ Below w.heap.size w w' := by
  have CT := Lib.hid fun w5 (k : Below w.heap.size w w5) => ptemp_any A A' m c m c' g rs tmp 0 w5 (hr.below k) (hr'.below k) hm hc hc' H
  have CL := Lib.hid (pshare_any left nx ls 0 HL)
  have CA := Lib.hid (palw_any ls jd al 0 HA)
  have h0 : ((w.alloc (.cells (balL ⟨p, m, g, rs, nx, 0, 0, 0, 0⟩ ⟨A, c⟩ ⟨A', c'⟩).toArray 37)).alloc (.cells (balL bal0 .nil .nil).toArray 37)).heap[w.heap.size]? = some (.cells (balL ⟨p, m, g, rs, nx, 0, 0, 0, 0⟩ ⟨A, c⟩ ⟨A', c'⟩).toArray 37 (0, 0)) := (by rw [heap_alloc_old _ _ (by simp)]; exact heap_alloc_last w _); have z : (w.alloc (.cells (balL ⟨p, m, g, rs, nx, 0, 0, 0, 0⟩ ⟨A, c⟩ ⟨A', c'⟩).toArray 37)).heap.size = w.heap.size + 1 := (by simp); have h1 := heap_alloc_last (w.alloc (.cells (balL ⟨p, m, g, rs, nx, 0, 0, 0, 0⟩ ⟨A, c⟩ ⟨A', c'⟩).toArray 37)) (.cells (balL bal0 .nil .nil).toArray 37); rw [z] at h1; have kb := ((Below.refl w.heap.size w).alloc (Nat.le_refl _) (.cells (balL ⟨p, m, g, rs, nx, 0, 0, 0, 0⟩ ⟨A, c⟩ ⟨A', c'⟩).toArray 37)).alloc (by omega) (.cells (balL bal0 .nil .nil).toArray 37); obtain ⟨wa, hwa⟩ : ∃ wa, (w.alloc (.cells (balL ⟨p, m, g, rs, nx, 0, 0, 0, 0⟩ ⟨A, c⟩ ⟨A', c'⟩).toArray 37)).alloc (.cells (balL bal0 .nil .nil).toArray 37) = wa := ⟨_, rfl⟩; rw [hwa] at h0 h1 kb; have H0 := Lib.hid h0; have H1 := Lib.hid h1; have KB := Lib.hid kb; have HWA := Lib.hid (show (w.alloc (.cells (balL ⟨p, m, g, rs, nx, 0, 0, 0, 0⟩ ⟨A, c⟩ ⟨A', c'⟩).toArray 37)).alloc (.cells #[.int .i64 0, .slice none 0 0, .slice none 0 0, .int .i64 0, .int .i64 0, .int .i64 0, .int .i64 0, .int .i64 0] 37) = wa from hwa); have c1 : wa.cell? ⟨w.heap.size, 1, none⟩ = some (.slice A m c) := cell_of_row _ _ 1 _ _ _ h0; have c2 : wa.cell? ⟨w.heap.size, 2, none⟩ = some (.slice A' m c') := cell_of_row _ _ 2 _ _ _ h0; have lt0 := (Array.getElem?_eq_some_iff.1 h0).1; have lt1 := (Array.getElem?_eq_some_iff.1 h1).1; clear h0 h1 kb z hwa
  clear hr hr' H HL HA
  go_enter Try.func26, Try.ntmps26
  go_upto_region 1 with fail
  rw [HWA.out]
  go_wp2_with fail
  refine (CT.out _ KB.out).mono ?_
  rintro e w2 ⟨rfl, hb⟩
  have K2 := Lib.hid (KB.out.trans (hb.mono KB.out.size))
  have B0 := Lib.hid ((hb.block _ lt0).trans H0.out)
  have B1 := Lib.hid ((hb.block _ lt1).trans H1.out)
  have lw2 := Nat.lt_of_lt_of_le lt1 hb.size
  have c3 : w2.cell? ⟨w.heap.size, 3, none⟩ = some (.int .i64 nx) := cell_of_row _ _ 3 _ _ _ B0.out
  clear hb CT c1 c2
  go_wp2_with fail
  refine (CL.out _).mono ?_
  rintro e w3 ⟨rfl, hb⟩
  have K3 := Lib.hid (K2.out.trans (hb.mono K2.out.size))
  have D0 := Lib.hid ((hb.block _ (by omega)).trans B0.out)
  have D1 := Lib.hid ((hb.block _ lw2).trans B1.out)
  have d4 : w3.cell? ⟨w.heap.size, 4, none⟩ = some (.int .i64 0) := cell_of_row _ _ 4 _ _ _ D0.out
  have d5 : w3.cell? ⟨w.heap.size, 5, none⟩ = some (.int .i64 0) := cell_of_row _ _ 5 _ _ _ D0.out
  have d6 : w3.cell? ⟨w.heap.size, 6, none⟩ = some (.int .i64 0) := cell_of_row _ _ 6 _ _ _ D0.out
  have d7 : w3.cell? ⟨w.heap.size, 7, none⟩ = some (.int .i64 0) := cell_of_row _ _ 7 _ _ _ D0.out
  have f4 := frozen_of_row _ _ 4 _ _ D0.out
  have f5 := frozen_of_row _ _ 5 _ _ D0.out
  have f6 := frozen_of_row _ _ 6 _ _ D0.out
  have f7 := frozen_of_row _ _ 7 _ _ D0.out
  clear hb CL c3
  go_upto_region 11 with (go_at_call 49; (refine (CA.out _).mono ?_); rintro e w' ⟨rfl, rfl⟩)
  rw [bal_set4 D0.out, bal_set5 (setRow_heap _ _ _ _ _ _ D0.out), setRow_setRow, bal_set6 (setRow_heap _ _ _ _ _ _ D0.out), setRow_setRow, bal_set7 (setRow_heap _ _ _ _ _ _ D0.out), setRow_setRow]
  generalize hw5 : World.setRow _ _ _ = w5
  have E0 := Lib.hid (row_range (show w5.heap[w.heap.size]? = some (.cells (balL ⟨p, m, g, rs, nx, left, tmp, ls, al⟩ ⟨A, c⟩ ⟨A', c'⟩).toArray 37 (0, 0)) from by rw [← hw5]; exact setRow_heap _ _ _ _ _ _ D0.out))
  have E1 := Lib.hid (show w5.heap[w.heap.size + 1]? = some (.cells (balL bal0 .nil .nil).toArray 37 (0, 0)) from by rw [← hw5, setRow_other _ _ _ _ (by omega)]; exact D1.out)
  have K5 := Lib.hid (show Below w.heap.size w w5 from by rw [← hw5]; exact below_setRow K3.out (Nat.le_refl _) _)
  clear hw5 d4 d5 d6 d7 f4 f5 f6 f7 D0 D1
  go_wp2_with (first | ((with_reducible show wpList _ _ _ _ _ _); (refine wpList_load_mid rfl 37 (.tmp 3) rfl w.heap.size 0 rfl (balL ⟨p, m, g, rs, nx, left, tmp, ls, al⟩ ⟨A, c⟩ ⟨A', c'⟩) _ E0.out Try.underlying37 rfl (bal_sizeL _ _ _) ?_)) | ((with_reducible show wpList _ _ _ _ _ _); (refine wpList_store_row rfl 37 (.tmp 6) (.tmp 53) rfl (w.heap.size + 1) (balL ⟨p, m, g, rs, nx, left, tmp, ls, al⟩ ⟨A, c⟩ ⟨A', c'⟩).toArray rfl rfl _ _ E1.out (bal_size ⟨p, m, g, rs, nx, left, tmp, ls, al⟩ ⟨A, c⟩ ⟨A', c'⟩) rfl (bal_one _ _ _) ?_)))
  (try simp only [Exit.inBlock, Exit.then])
  exact bodyPost_ret (results_ct rfl _ _ (w.heap.size + 1) _ rfl (run_loadVar_row _ _ _ _ _ (0, 0) _ (setRow_heap _ _ _ _ _ _ E1.out) Try.underlying37 rfl (bal_size ⟨p, m, g, rs, nx, left, tmp, ls, al⟩ ⟨A, c⟩ ⟨A', c'⟩))) rfl ⟨rfl, below_setRow K5.out (by omega) _⟩
end
end Go.Proofs.Ytmlafdehhbhbiaa
