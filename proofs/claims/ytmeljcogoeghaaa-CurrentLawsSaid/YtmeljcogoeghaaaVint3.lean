/- Package vintage: Expire (a goto back to a label), as the laws meet it: a contract. -/
import Derived.Test.YtmeljcogoeghaaaVint2
import Derived.ScopeJumps
import Derived.WalkMore
import Derived.WalkKit
import Derived.WalkSpells
import Derived.WalkLawsBesides
import Derived.Lib.Hide
import Derived.IntWalk
namespace Go.Proofs.Ytmeljcogoeghaaa
open Go.RowKit

theorem tot_drop (f : Nat → Int) (k : Nat) : ∀ d, tot f (k + d) = tot f k + tot (fun j => f (k + j)) d
  | 0 => by show tot f k = tot f k + 0; omega
  | d + 1 => by
    have e := tot_drop f k d
    show tot f (k + d) + f (k + d) = tot f k + (tot (fun j => f (k + j)) d + f (k + d))
    omega
section
variable {w0 w w1 : World} {O O1 : Nat → Nat} {base t t' sb n m k : Nat} {v v' : Value} {g h : Nat → Bk} {S : Int → Int → Int} {c y a e year : Int}
/-- the first ones are of a year behind, the others are not -/
structure Upto (n : Nat) (g : Nat → Bk) (year : Int) (k : Nat) : Prop where
  le : k ≤ n
  lo : ∀ j, j < k → (g j).c < year
  hi : ∀ j, k ≤ j → j < n → ¬ (g j).c < year
theorem upto_all (hlo : ∀ j, j < n → (g j).c < year) : Upto n g year n := ⟨Nat.le_refl _, hlo, fun j h1 h2 => by omega⟩
theorem upto_at (r : VRow n g) (hk : k < n) (hlo : ∀ j, j < k → (g j).c < year) (hq : ¬ (g k).c < year) : Upto n g year k := by
  refine ⟨by omega, hlo, fun j h1 h2 => ?_⟩
  by_cases e : j = k
  · rw [e]; exact hq
  · have := r.asc k j (by omega) h2
    unfold Bl at this; omega
theorem Upto.sum (p : Upto n g year k) : tot (goneU g year) n = btot g k := by
  obtain ⟨d, rfl⟩ := Nat.exists_eq_add_of_le p.le
  rw [tot_drop, tot_zero d fun j hj => by show goneU g year (k + j) = 0; unfold goneU; exact if_neg (p.hi _ (by omega) (by omega)), Int.add_zero]
  exact tot_ext k fun j hj => by unfold goneU; exact if_pos (p.lo j hj)
theorem Upto.inv (p : Upto n g year k) (iv : VInv S n g) : VInv (xpS S year) (n - k) fun j => g (k + j) := by
  have hk := p.le
  have hb : ∀ f : Nat → Int, tot f n = tot f k + tot (fun j => f (k + j)) (n - k) := fun f => by
    rw [← tot_drop, show k + (n - k) = n by omega]
  refine ⟨⟨⟨fun j hj => iv.is.1.ok _ (by omega), fun j hj => iv.is.1.nz _ (by omega), fun i j hi hj => iv.is.1.asc _ _ (by omega) (by omega)⟩, fun c y => ?_⟩, by have := iv.le; omega, fun j hj => iv.pos _ (by omega), ?_⟩
  · have e := hb fun j => bval (g j) c y
    have e0 := iv.is.2 c y
    unfold xpS
    show tot (fun j => bval (g (k + j)) c y) (n - k) = _
    by_cases q : c < year
    · rw [if_pos q]
      refine tot_zero _ fun j hj => if_neg fun z => p.hi (k + j) (by omega) (by omega) ?_
      rw [z.1]; exact q
    · rw [if_neg q, ← e0]
      have z : tot (fun j => bval (g j) c y) k = 0 := tot_zero k fun j hj => if_neg fun z => q (by rw [← z.1]; exact p.lo j hj)
      show _ = tot (fun j => bval (g j) c y) n
      omega
  · have e := hb fun j => (g j).a
    have h0 : 0 ≤ tot (fun j => (g j).a) k := tot_nonneg k fun j hj => iv.pos j (by omega)
    have := iv.all
    show tot (fun j => (g (k + j)).a) (n - k) ≤ _
    have e' : btot g n = tot (fun j => (g j).a) n := rfl
    omega
set_option maxHeartbeats 4000000 in
set_option maxRecDepth 100000 in
theorem vexp (s : LV w O base t sb v n g) (iv : VInv S n g) (fn : Fin0 base O w) (year : Int) :
    Calls Try.prog 27 #[ptr sb, .int .i64 year] w fun e' w' => ∃ k, Upto n g year k ∧ e' = .returned (.int .i64 (btot g k)) ∧ ∃ v' O', LV w' O' base t sb v' (n - k) (fun j => g (k + j)) ∧ Step base O t w O' w' := by
  have c0 := s.hd.c0
  have g0 := s.hd.frz 0
  have lt0 := s.hd.lt
  have hn := iv.le
  obtain ⟨A, cc, rfl, hc, hm, _, ha⟩ := s.at
  have HA := Lib.hid ha
  have HS := Lib.hid s
  have HI := Lib.hid iv
  have HF := Lib.hid fn
  have HN := Lib.hid hn
  have CD := Lib.hid fun k => fun hk : k ≤ n => vdrop (k := k) s.own (by omega) hk
  have nob : Hid (some sb ≠ (Value.slice A n cc).ownBlock) := Lib.hid fun e => (HS.out.row.tag sb e.symm).2 rfl
  have fin : ∀ k, Upto n g year k → ∀ w5, OwnR ve 3 w5 35 base (.slice A (n - k) cc) (n - k) (fun j => g (k + j)) → w.grownBy w5 (Value.slice A n cc).ownBlock → ∃ v' O', LV (w5.setCell ⟨sb, 0, none⟩ (.slice A (n - k) cc)) O' base t sb v' (n - k) (fun j => g (k + j)) ∧ Step base O t w O' (w5.setCell ⟨sb, 0, none⟩ (.slice A (n - k) cc)) := fun k _ w5 ho hg => by
    obtain ⟨O', s', st⟩ := HS.out.grows HF.out hg ho fun b hb => .inl (by
      rcases A with _ | ⟨b', off', j'⟩
      · cases hb
      · exact hb)
    exact ⟨_, O', s', st⟩
  have FIN := Lib.hid fin
  have HB : Hid (∀ k, k < n → 0 ≤ btot g k ∧ btot g k ≤ 100000000000 ∧ 0 ≤ (g k).a ∧ (g k).a ≤ 100000000000) := Lib.hid fun k hk => by
    have h1 := tot_upto (g := fun j => (g j).a) (k := k) (fun j hj => HI.out.pos j hj) (by omega)
    have h2 := HI.out.all
    have h3 := HI.out.one hk
    have h4 : btot g n = tot (fun j => (g j).a) n := rfl
    have h5 : btot g k = tot (fun j => (g j).a) k := rfl
    omega
  have hn2 : n ≤ 12 := hn
  clear s iv fn ha fin
  go_enter Try.func27, Try.ntmps27
  go_wp2
  refine wp_scope_jumps 0 (fun a' w' => ∃ (k : Nat) (T : Int) (u7 u8 u9 u10 u11 u12 u13 u14 u15 u16 u17 u18 u19 u20 u21 u22 u23 u24 u25 u26 u27 u28 u29 u30 u31 u32 u33 u34 u35 u36 u37 u38 u39 u40 u41 u42 u43 u44 u45 u46 u47 : Value), w' = w ∧ a' = { tmps := #[.pointer (some ⟨sb, 0, none⟩), .int .i64 year, undef, undef, .int .i64 0, .int .i64 k, .int .i64 T, u7, u8, u9, u10, u11, u12, u13, u14, u15, u16, u17, u18, u19, u20, u21, u22, u23, u24, u25, u26, u27, u28, u29, u30, u31, u32, u33, u34, u35, u36, u37, u38, u39, u40, u41, u42, u43, u44, u45, u46, u47], defers := [] } ∧ k ≤ n ∧ (∀ j, j < k → (g j).c < year) ∧ btot g k = T) (fun a' _ => n - (intOf (a'.tmps.getD 5 undef)).toNat) rfl ?_ ?_
  · go_wp2
    go_step3
    have HT : Hid (btot g 0 = 0) := Lib.hid rfl
    have HLO : Hid (∀ j, j < 0 → (g j).c < year) := Lib.hid fun j hj => by omega
    have C1 := Lib.hid (CD.out 0 (Nat.zero_le _))
    by_cases hlt : 0 < n
    · obtain ⟨b, off, rfl, hb, c1, c2, c3⟩ := HA.out.threeV hlt
      rw [Nat.zero_mul, Nat.add_zero] at c1 c2 c3
      have k1 : (0 : Int) < (n : Int) := by omega
      by_cases hy : (g 0).c < year
      · have HY := Lib.hid hy
        have hy' : decide ((g 0).c < year) = true := by simpa using hy
        have tb := HB.out 0 hlt
        have EW : Hid (wrap64 (g 0).a = (g 0).a) := Lib.hid (by unfold wrap64; omega)
        clear hy tb
        go_wp2
        go_step3
        rw [EW.out]
        refine ⟨rfl, 1, (g 0).a, _, _, _, _, _, _, _, _, _, _, _, _, _, _, _, _, _, _, _, _, _, _, _, _, _, _, _, _, _, _, _, _, _, _, _, _, _, _, _, _, _, rfl, rfl, by omega, fun j hj => ?_, ?_⟩
        · obtain rfl : j = 0 := by omega
          exact HY.out
        · show btot g 0 + (g 0).a = _
          rw [HT.out, Int.zero_add]
      · have HY := Lib.hid hy
        have hy' : decide ((g 0).c < year) = false := by simpa using hy
        clear hy
        go_wp2_with (go_at_call 50; (refine (C1.out).mono ?_); rintro e w5 ⟨rfl, ho5, hg5⟩; have c5 := hg5.cell c0 nob.out; have f5 := (hg5.frozen_far ⟨sb, 0, none⟩ lt0 nob.out).trans g0; have HO5 := Lib.hid ho5; have HG5 := Lib.hid hg5; clear ho5 hg5)
        simp only [Exit.jump]
        go_ret
        have p := upto_at HI.out.is.1 hlt HLO.out (by have := HY.out; omega)
        exact ⟨0, p, congrArg (fun x => Ending.returned (.int .i64 x)) HT.out.symm, FIN.out 0 p _ HO5.out HG5.out⟩
    · obtain rfl : n = 0 := by omega
      clear hlt
      go_wp2_with (go_at_call 50; (refine (C1.out).mono ?_); rintro e w5 ⟨rfl, ho5, hg5⟩; have c5 := hg5.cell c0 nob.out; have f5 := (hg5.frozen_far ⟨sb, 0, none⟩ lt0 nob.out).trans g0; have HO5 := Lib.hid ho5; have HG5 := Lib.hid hg5; clear ho5 hg5)
      simp only [Exit.jump]
      go_ret
      have p := upto_all HLO.out
      exact ⟨0, p, congrArg (fun x => Ending.returned (.int .i64 x)) HT.out.symm, FIN.out 0 p _ HO5.out HG5.out⟩
  · rintro a' w' ⟨k, T, u7, u8, u9, u10, u11, u12, u13, u14, u15, u16, u17, u18, u19, u20, u21, u22, u23, u24, u25, u26, u27, u28, u29, u30, u31, u32, u33, u34, u35, u36, u37, u38, u39, u40, u41, u42, u43, u44, u45, u46, u47, rfl, rfl, hk, hlo, hT⟩
    have HLO := Lib.hid hlo
    have HT := Lib.hid hT
    clear hlo hT
    have C1 := Lib.hid (CD.out k hk)
    have k0 : (0 : Int) ≤ (k : Int) := by omega
    by_cases hlt : k < n
    · obtain ⟨b, off, rfl, hb, c1, c2, c3⟩ := HA.out.threeV hlt
      have k1 : (k : Int) < (n : Int) := by omega
      by_cases hy : (g k).c < year
      · have HY := Lib.hid hy
        have hy' : decide ((g k).c < year) = true := by simpa using hy
        have tb := HB.out k hlt
        rw [HT.out] at tb
        have ew : IntKind.i64.wrap (T + (g k).a) = T + (g k).a := IntWalk.i64_in _ (by omega)
        clear hy tb
        go_wp2
        go_step3
        refine ⟨rfl, ⟨k + 1, T + (g k).a, _, _, _, _, _, _, _, _, _, _, _, _, _, _, _, _, _, _, _, _, _, _, _, _, _, _, _, _, _, _, _, _, _, _, _, _, _, _, _, _, _, rfl, rfl, by omega, fun j hj => ?_, ?_⟩, ?_⟩
        · by_cases e : j = k
          · rw [e]; exact HY.out
          · exact HLO.out j (by omega)
        · rw [← HT.out]; rfl
        · simp [intOf]; omega
      · have HY := Lib.hid hy
        have hy' : decide ((g k).c < year) = false := by simpa using hy
        clear hy
        go_wp2_with (go_at_call 50; (refine (C1.out).mono ?_); rintro e w5 ⟨rfl, ho5, hg5⟩; have c5 := hg5.cell c0 nob.out; have f5 := (hg5.frozen_far ⟨sb, 0, none⟩ lt0 nob.out).trans g0; have HO5 := Lib.hid ho5; have HG5 := Lib.hid hg5; clear ho5 hg5)
        simp only [Exit.jump]
        go_ret
        have p := upto_at HI.out.is.1 hlt HLO.out (by have := HY.out; omega)
        exact ⟨k, p, congrArg (fun x => Ending.returned (.int .i64 x)) HT.out.symm, FIN.out k p _ HO5.out HG5.out⟩
    · obtain rfl : k = n := by omega
      have k1 : decide ((k : Int) < (k : Int)) = false := by simp
      clear hlt
      go_wp2_with (go_at_call 50; (refine (C1.out).mono ?_); rintro e w5 ⟨rfl, ho5, hg5⟩; have c5 := hg5.cell c0 nob.out; have f5 := (hg5.frozen_far ⟨sb, 0, none⟩ lt0 nob.out).trans g0; have HO5 := Lib.hid ho5; have HG5 := Lib.hid hg5; clear ho5 hg5)
      simp only [Exit.jump]
      go_ret
      have p := upto_all HLO.out
      have f := FIN.out k p _ HO5.out HG5.out
      refine ⟨k, p, congrArg (fun x => Ending.returned (.int .i64 x)) HT.out.symm, ?_⟩
      rw [Nat.sub_self] at f ⊢
      exact f
theorem pvexp (h : NowV w0 w O t sb S) (ht : t ≠ 0) {m : Nat} {g' : Nat → Bk} (b : VIs S m g') (year : Int) :
    Calls Try.prog 27 #[ptr sb, .int .i64 year] w fun e' w' => e' = .returned (.int .i64 (tot (goneU g' year) m)) ∧ ∃ O', NowV w0 w' O' t sb (xpS S year) ∧ Step w0.heap.size O t w O' w' := by
  obtain ⟨v, n, g, s, iv⟩ := h.st
  obtain ⟨eq, eg⟩ := iv.is.uniq b
  subst eq
  refine (vexp s iv h.fin year).mono ?_
  rintro e' w' ⟨k, p, rfl, v', O', s', st⟩
  refine ⟨congrArg (fun x => Ending.returned (.int .i64 x)) ?_, O', ⟨⟨_, _, _, s', p.inv iv⟩, st.fin, h.low.trans (st.below h.fin ht h.low.size)⟩, st⟩
  rw [← p.sum]
  exact tot_ext n fun j hj => by unfold goneU; rw [eg j hj]
end
end Go.Proofs.Ytmeljcogoeghaaa
