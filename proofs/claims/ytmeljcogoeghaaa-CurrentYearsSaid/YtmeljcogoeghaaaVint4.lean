/- Package vintage: Take, as the laws meet it: a contract. -/
import Derived.Test.YtmeljcogoeghaaaVint3
import Derived.WalkKit
import Derived.WalkSpells
import Derived.WalkLawsBesides
import Derived.Lib.Hide
import Derived.IntWalk
import Derived.Deep.LoopGhost
namespace Go.Proofs.Ytmeljcogoeghaaa
open Go.RowKit

section
variable {w0 w w1 : World} {O O1 : Nat → Nat} {base t t' sb n m k : Nat} {v v' : Value} {g h : Nat → Bk} {S : Int → Int → Int} {U : Option Addr} {q c : Nat} {u : Nat → Int} {r : Int}
theorem venough (s : LV w O base t sb v n g) (iv : VInv S n g) (hu : At w U q u) (hr : TErr n g q u r) :
    Calls Try.prog 52 #[ptr sb, .slice U q c] w fun e w' => e = .returned (.bool (r == 0)) ∧ Below w.heap.size w w' := by
  have c0 := s.hd.c0
  have hn := iv.le
  obtain ⟨A, cc, rfl, hc, hm, _, ha⟩ := s.at
  have HA := Lib.hid ha
  have HI := Lib.hid iv
  have HU := Lib.hid hu
  have HR := Lib.hid hr
  by_cases hqn : q = n
  · subst hqn
    have ee : ((q : Int) != (q : Int)) = false := by simp
    clear s iv ha hu hr
    go_enter Try.func52, Try.ntmps52
    go_wp2
    go_loopg [17] q (fun gh i wr => ∃ k : Nat, k ≤ q ∧ gh = q - k ∧ i = .int .i64 k ∧ (∀ j, j < k → 0 ≤ u j ∧ u j ≤ (g j).a) ∧ Below w.heap.size w wr)
    case atStart => exact ⟨0, Nat.zero_le _, rfl, rfl, fun j hj => by omega, Below.refl _ _⟩
    case round =>
      obtain ⟨k, hk, hgk, rfl, hok, hbw⟩ := hrel
      have HGK := Lib.hid hgk
      have HW := Lib.hid hbw
      have HK := Lib.hid hok
      clear hgk hbw hok
      by_cases hlt : k < q
      · obtain ⟨b, off, rfl, hb, k0, k1, k2⟩ := (HA.out.below HW.out).threeV hlt
        obtain ⟨bu, ou, rfl, hbu, hcu⟩ := (HU.out.below HW.out).some (show 0 < q by omega)
        have cu := hcu k hlt
        have d0 := cell_keep c0 HW.out
        have i1 : (0 : Int) ≤ (k : Int) := by omega
        have i2 : (k : Int) < (q : Int) := by omega
        obtain ⟨x, hx⟩ : ∃ x, u k = x := ⟨_, rfl⟩
        obtain ⟨L, hL⟩ : ∃ L, (g k).a = L := ⟨_, rfl⟩
        rw [hx] at cu
        rw [hL] at k2
        have HX := Lib.hid hx
        have HL := Lib.hid hL
        have bad : x < 0 ∨ L < x → Hid ((r == 0) = false) := fun z => Lib.hid (by
          rcases HR.out with ⟨h1, _⟩ | ⟨_, rfl⟩
          · have := h1.2 k hlt
            rw [HX.out, HL.out] at this; omega
          · rfl)
        clear hx hL hcu
        by_cases h1 : x < 0
        · have RB := bad (.inl h1)
          have d1 : decide (x < 0) = true := by simpa using h1
          clear h1 bad
          go_wp2
          go_ret
          exact ⟨congrArg (fun x => Ending.returned (.bool x)) RB.out.symm, HW.out⟩
        · by_cases h2 : L < x
          · have RB := bad (.inr h2)
            have d1 : decide (x < 0) = false := by simpa using h1
            have d2 : decide (L < x) = true := by simpa using h2
            clear h1 h2 bad
            go_wp2
            go_ret
            exact ⟨congrArg (fun x => Ending.returned (.bool x)) RB.out.symm, HW.out⟩
          · have d1 : decide (x < 0) = false := by simpa using h1
            have d2 : decide (L < x) = false := by simpa using h2
            have HK2 : Hid (∀ j, j < k + 1 → 0 ≤ u j ∧ u j ≤ (g j).a) := Lib.hid fun j hj => by
              by_cases e : j = k
              · rw [e, HX.out, HL.out]; omega
              · exact HK.out j (by omega)
            clear h1 h2 bad
            go_wp2
            go_roundg (q - (k + 1))
            case measure => have := HGK.out; omega
            case rel => exact ⟨k + 1, by omega, rfl, by go_num, HK2.out, HW.out⟩
      · obtain rfl : k = q := by omega
        clear hlt
        have RB : Hid ((r == 0) = true) := Lib.hid (by
          rcases HR.out with ⟨_, rfl⟩ | ⟨h1, _⟩
          · rfl
          · exact absurd ⟨rfl, HK.out⟩ h1)
        go_wp2
        go_ret
        exact ⟨congrArg (fun x => Ending.returned (.bool x)) RB.out.symm, HW.out⟩
  · have ee : ((q : Int) != (n : Int)) = true := by simp; omega
    have RB : Hid ((r == 0) = false) := Lib.hid (by
      rcases HR.out with ⟨h1, _⟩ | ⟨_, rfl⟩
      · exact absurd h1.1 hqn
      · rfl)
    clear s iv ha hu hr hqn
    go_enter Try.func52, Try.ntmps52
    go_wp2
    go_ret
    exact ⟨congrArg (fun x => Ending.returned (.bool x)) RB.out.symm, Below.refl _ _⟩
theorem LV.ext (s : LV w O base t sb v n g) (e : ∀ j, j < n → g j = h j) : LV w O base t sb v n h := ⟨s.hd, by rw [← rl_ext e]; exact s.row⟩
/-- k of them are some less -/
def lessK (g : Nat → Bk) (u : Nat → Int) (k : Nat) : Nat → Bk := fun j => if j < k then lessG g u j else g j
set_option maxHeartbeats 4000000 in
set_option maxRecDepth 100000 in
theorem vtake (s : LV w O base t sb v n g) (iv : VInv S n g) (fn : Fin0 base O w) (hu : At w U q u) (hU : ∀ b off, U = some ⟨b, off, none⟩ → O b ≠ t) (hr : TErr n g q u r) :
    Calls Try.prog 31 #[ptr sb, .slice U q c] w fun e w' => e = .returned (.int .i64 r) ∧ ((r = 1 ∧ Below w.heap.size w w') ∨ (r = 0 ∧ UOk n g q u ∧ ∃ v' m h O', LV w' O' base t sb v' m h ∧ Flt n (lessG g u) n m h ∧ Step base O t w O' w')) := by
  have C1 := Lib.hid (venough (c := c) s iv hu hr)
  have HS := Lib.hid s
  have HI := Lib.hid iv
  have HF := Lib.hid fn
  have HU := Lib.hid hu
  have HNU := Lib.hid hU
  have hn := iv.le
  rcases hr with ⟨ok, rfl⟩ | ⟨nok, rfl⟩
  · obtain ⟨rfl, ok⟩ := ok
    have HOK := Lib.hid ok
    rw [show ((0 : Int) == 0) = true from rfl] at C1
    clear s iv fn hu hU ok
    go_enter Try.func31, Try.ntmps31
    go_wp2_with (go_at_call 52; (refine (C1.out).mono ?_); rintro e w1 ⟨rfl, hb1⟩; have K1 := Lib.hid hb1; clear hb1)
    go_loopg [13] q (fun gh i wr => ∃ k : Nat, k ≤ q ∧ gh = q - k ∧ i = .int .i64 k ∧ LV wr O base t sb v q (lessK g u k) ∧ Step base O t w O wr)
    case atStart => exact ⟨0, Nat.zero_le _, rfl, rfl, (HS.out.below K1.out).ext fun j hj => (if_neg (Nat.not_lt_zero _)).symm, Step.of_below HF.out K1.out⟩
    case round =>
      obtain ⟨k, hk, hgk, rfl, hs, hst⟩ := hrel
      have HGK := Lib.hid hgk
      have HSR := Lib.hid hs
      have HST := Lib.hid hst
      have d0 := hs.hd.c0
      clear hgk hs hst
      by_cases hlt : k < q
      · obtain ⟨b, cc, e, _, _⟩ := own_some HSR.out.own (by omega)
        subst e
        obtain ⟨_, _, e, _, _, _, _, hcell, hfz⟩ := HSR.out.own.some ve_len (by omega)
        injection e with e1 _ e3
        injection e1 with e1
        injection e1 with e1
        subst e1 e3
        have k2 := hcell k hlt 2 _ rfl
        have f2 := hfz (k * 3 + 2)
        have ek : lessK g u k k = g k := if_neg (Nat.lt_irrefl _)
        rw [ek] at k2
        have EK := Lib.hid ek
        obtain ⟨bu, ou, rfl, hbu, hcu⟩ := HU.out.some (show 0 < q by omega)
        have cu := (World.cell?_of_block (a := ⟨bu, ou + k, none⟩) (HST.out.kept.block bu hbu (HNU.out bu ou rfl))).trans (hcu k hlt)
        have i1 : (0 : Int) ≤ (k : Int) := by omega
        have i2 : (k : Int) < (q : Int) := by omega
        have hok := HOK.out k hlt
        have hall := HI.out.one hlt
        have hall2 := HI.out.all
        obtain ⟨x, hx⟩ : ∃ x, u k = x := ⟨_, rfl⟩
        obtain ⟨L, hL⟩ : ∃ L, (g k).a = L := ⟨_, rfl⟩
        rw [hx] at cu hok
        rw [hL] at k2 hok hall
        have ew : IntKind.i64.wrap (L - x) = L - x := IntWalk.i64_in _ (by omega)
        have HX := Lib.hid hx
        have HL := Lib.hid hL
        have HM : Hid (LV (wr.setCell ⟨b, k * 3 + 2, none⟩ (.int .i64 (L - x))) O base t sb (.slice (some ⟨b, 0, none⟩) q cc) q (lessK g u (k + 1)) ∧ Step base O t w O (wr.setCell ⟨b, k * 3 + 2, none⟩ (.int .i64 (L - x)))) := Lib.hid (by
          obtain ⟨s1, st1⟩ := HSR.out.put HST.out.fin hlt (L - x)
          refine ⟨s1.ext fun j hj => ?_, HST.out.trans st1⟩
          unfold repB
          by_cases e : j = k
          · rw [if_pos e, e, EK.out]
            unfold lessK
            rw [if_pos (by omega)]
            unfold lessG
            rw [HX.out, HL.out]
          · rw [if_neg e]
            unfold lessK
            by_cases z : j < k
            · rw [if_pos z, if_pos (by omega)]
            · rw [if_neg z, if_neg (by omega)])
        clear hcell hfz hcu hx hL hok hall hall2 ek
        go_wp2
        go_roundg (q - (k + 1))
        case measure => have := HGK.out; omega
        case rel => exact ⟨k + 1, by omega, rfl, by go_num, HM.out.1, HM.out.2⟩
      · obtain rfl : k = q := by omega
        clear hlt
        have HSE := Lib.hid (HSR.out.ext (h := lessG g u) fun j hj => if_pos hj)
        obtain ⟨A, cc, rfl, _⟩ := HSE.out.at
        have C2 := Lib.hid (vdelfn HSE.out.own (by omega) (fun j hj => HI.out.is.1.ok j hj) (fun i j hi hj => HI.out.is.1.asc i j hi hj))
        have lt0 := HSE.out.hd.lt
        have g0 := HSE.out.hd.frz 0
        have nob : Hid (some sb ≠ (Value.slice A k cc).ownBlock) := Lib.hid fun e => (HSE.out.row.tag sb e.symm).2 rfl
        go_wp2_with (go_at_call 53; (refine (C2.out).mono ?_); rintro e w5 ⟨m, h5, rfl, ho5, hf5, hg5⟩; have c5 := hg5.cell d0 nob.out; have f5 := (hg5.frozen_far ⟨sb, 0, none⟩ lt0 nob.out).trans g0; have HO5 := Lib.hid ho5; have HG5 := Lib.hid hg5; have HF5 := Lib.hid hf5; clear ho5 hg5 hf5)
        go_ret
        obtain ⟨O', s', st⟩ := HSE.out.grows HST.out.fin HG5.out HO5.out fun b hb => .inl (by
          rcases A with _ | ⟨b', off', j'⟩
          · cases hb
          · exact hb)
        exact ⟨rfl, .inr ⟨trivial, ⟨rfl, HOK.out⟩, _, _, _, O', s', HF5.out, HST.out.trans st⟩⟩
  · rw [show ((1 : Int) == 0) = false from rfl] at C1
    clear s iv fn hu hU nok
    go_enter Try.func31, Try.ntmps31
    go_wp2_with (go_at_call 52; (refine (C1.out).mono ?_); rintro e w1 ⟨rfl, hb1⟩; have K1 := Lib.hid hb1; clear hb1)
    go_ret
    exact ⟨rfl, .inl ⟨trivial, K1.out⟩⟩
theorem pvtake (h : NowV w0 w O t sb S) (ht : t ≠ 0) {m : Nat} {g' : Nat → Bk} (b : VIs S m g') {U : Option Addr} {q c : Nat} {u : Nat → Int} (hu : At w U q u) (hU : ∀ b off, U = some ⟨b, off, none⟩ → O b ≠ t) (r : Int) (hr : TErr m g' q u r) :
    Calls Try.prog 31 #[ptr sb, .slice U q c] w fun e' w' => e' = .returned (.int .i64 r) ∧ ∃ O', NowV w0 w' O' t sb (tkS r S m g' u) ∧ Step w0.heap.size O t w O' w' := by
  obtain ⟨v, n, g, s, iv⟩ := h.st
  obtain ⟨eq, eg⟩ := iv.is.uniq b
  subst eq
  have eo : UOk n g q u ↔ UOk n g' q u := by
    unfold UOk
    constructor
    · exact fun z => ⟨z.1, fun j hj => by rw [← eg j hj]; exact z.2 j hj⟩
    · exact fun z => ⟨z.1, fun j hj => by rw [eg j hj]; exact z.2 j hj⟩
  have hr' : TErr n g q u r := by
    unfold TErr at hr ⊢
    rw [eo]; exact hr
  refine (vtake s iv h.fin hu hU hr').mono ?_
  rintro e' w' ⟨rfl, h1⟩
  refine ⟨rfl, ?_⟩
  unfold tkS
  rcases h1 with ⟨rfl, hb⟩ | ⟨rfl, k2, v', m', h', O', s', f, st⟩
  · exact ⟨O, by rw [if_neg (by decide)]; exact h.below hb, Step.of_below h.fin hb⟩
  · refine ⟨O', ⟨⟨_, _, _, s', ?_⟩, st.fin, h.low.trans (st.below h.fin ht h.low.size)⟩, st⟩
    rw [if_pos rfl, ← less_ext u eg]
    exact (iv.less k2.2 f).1
end
end Go.Proofs.Ytmeljcogoeghaaa
