/- journal.Net, Merge, Reverse: a contract for each. -/
import Derived.Test.YtpbpflhoeidpnaaJour
import Derived.WalkKit
import Derived.WalkSpells
import Derived.WalkLawsBesides
import Derived.Lib.Hide
import Derived.Deep.LoopGhost
namespace Go.Proofs.Ytpbpflhoeidpnaa
open Go.RowKit

theorem line_type : Try.prog.underlying 27 = some (.slice 26) := Try.underlying27

/-- at the head of a round of Net: the lines of account a of the first k -/
def Picked (a : Int) (ga gm : Nat → Int) (k m : Nat) (fm : Nat → Int) : Prop := m ≤ k ∧ (∀ j, j < m → Mon (fm j)) ∧ tot fm m = sm a ga gm k
theorem Picked.yes {a : Int} {ga gm : Nat → Int} {k m : Nat} {fm : Nat → Int} (h : Picked a ga gm k m fm) (e : ga k = a) (hm : Mon (gm k)) : Picked a ga gm (k + 1) (m + 1) (fun j => if j = m then gm k else fm j) := by
  obtain ⟨h1, h2, h3⟩ := h
  refine ⟨by omega, fun j hj => ?_, by rw [tot_push, h3, sm_yes e]⟩
  by_cases q : j = m
  · simp only [if_pos q]; exact hm
  · simp only [if_neg q]; exact h2 j (by omega)
theorem Picked.no {a : Int} {ga gm : Nat → Int} {k m : Nat} {fm : Nat → Int} (h : Picked a ga gm k m fm) (e : ¬ ga k = a) : Picked a ga gm (k + 1) m fm := by
  obtain ⟨h1, h2, h3⟩ := h
  exact ⟨by omega, h2, by rw [h3, sm_no e]⟩
set_option maxHeartbeats 4000000 in
set_option maxRecDepth 100000 in
theorem jnet_yes (A : Option Addr) (n c : Nat) (ga gm : Nat → Int) (a : Int) (w : World) (hA : AtL w A n ga gm) (HS : Hid (Summ n gm)) :
    Calls Try.prog 49 #[.slice A n c, .int .i64 a] w fun e w' => e = .returned (.int .i64 (sm a ga gm n)) ∧ Below w.heap.size w w' := by
  have hn := HS.out.1
  have HA := Lib.hid hA
  have HM : Hid (∀ j, j < n → Mon (gm j)) := Lib.hid HS.out.2
  clear hA
  obtain ⟨i0, hi, hz0, hz1, hz2⟩ := info_parts line_info
  go_enter Try.func49, Try.ntmps49
  go_wp2_with (go_at_call 64; (with_reducible refine (summable_yes _ _ _ ga gm _ HA.out hn HM).mono ?_); rintro e w2 ⟨rfl, hb2⟩; have HB := Lib.hid hb2; clear hb2)
  go_loopg [5, 13] n (fun gh v i wr => ∃ (k m : Nat) (fa fm : Nat → Int), k ≤ n ∧ gh = n - k ∧ i = .int .i64 k ∧ Picked a ga gm k m fm ∧ OwnL wr 26 w.heap.size v m fa fm ∧ Below w.heap.size w wr)
  case atStart => exact ⟨0, 0, fun _ => 0, fun _ => 0, Nat.zero_le _, by omega, rfl, ⟨Nat.le_refl _, fun j hj => by omega, rfl⟩, OwnL.nil _ _ _ _ _, HB.out⟩
  case round =>
    obtain ⟨k, m, fa, fm, hk, hgk, rfl, hp, ho, hbw⟩ := hrel
    have HGK := Lib.hid hgk
    have HBW := Lib.hid hbw
    have hmk := hp.1
    have HP := Lib.hid hp
    obtain ⟨A0, c0, rfl, oc, ocm, _, oat⟩ := ho.cut
    have HO := Lib.hid ho
    clear hgk hbw hp ho
    by_cases hlt : k < n
    · obtain ⟨b, off, rfl, hb, hc⟩ := HA.out.some (by omega)
      have ck := (HBW.out.cell (p := ⟨b, off + k * 2, none⟩) hb).trans (hc k hlt).1
      have ck' := (HBW.out.cell (p := ⟨b, off + k * 2 + 1, none⟩) hb).trans (hc k hlt).2
      clear hc oat
      by_cases hq : ga k = a
      · have HQ := Lib.hid hq
        have hq1 : (ga k == a) = true := by simpa using hq
        have hmk' : m ≤ 1000 := by omega
        clear hq
        go_wp2_with (at_builtin; (refine wpList_push_l rfl (.tmp 21) (.tmp 23) rfl line_type hi hz0 hz1 hz2 w w.heap.size m (wr.heap.size + 1) _ fa fm (ga k) (gm k) rfl rfl (by simp) (by simp) ((HO.out.alloc _).alloc _) (by omega) ((HBW.out.alloc HBW.out.size _).alloc (by have := HBW.out.size; simp; omega) _) (by have := HBW.out.size; simp; omega) _ rfl ?_; intro b1 c1 w' ho' hb' hg' hat'; have HO' := Lib.hid ho'; have HB' := Lib.hid hb'; clear ho' hg' hat' hb'))
        go_roundg (n - (k + 1))
        case measure => have := HGK.out; omega
        case rel => exact ⟨k + 1, m + 1, _, _, by omega, rfl, by go_num, HP.out.yes HQ.out (HM.out k hlt), HO'.out, HB'.out⟩
      · have HQ := Lib.hid hq
        have hq1 : (ga k == a) = false := by simpa using hq
        clear hq
        go_wp2
        go_roundg (n - (k + 1))
        case measure => have := HGK.out; omega
        case rel => exact ⟨k + 1, m, fa, fm, by omega, rfl, by go_num, HP.out.no HQ.out, HO.out.alloc _, HBW.out.alloc HBW.out.size _⟩
    · obtain rfl : k = n := by omega
      have h1 := dm_tot fm m
      have e1 := tot_net HP.out.2.1
      rw [HP.out.2.2] at e1
      obtain ⟨D, hD⟩ : ∃ D, tot (fun j => dm (fm j)) m = D := ⟨_, rfl⟩
      obtain ⟨C, hC⟩ : ∃ C, tot (fun j => cm (fm j)) m = C := ⟨_, rfl⟩
      have SC : Hid (Calls Try.prog 66 #[.slice A0 m c0] wr fun e w' => e = .returned (cx D C) ∧ Below wr.heap.size wr w') := Lib.hid (by rw [← hD, ← hC]; exact jsides_any A0 m c0 fa fm wr oat (by omega))
      rw [hD, hC] at h1 e1
      have E1 := Lib.hid e1
      obtain ⟨x1, x2, x3, x4⟩ := h1
      clear hlt oat hD hC e1
      go_wp2_with (first | (go_at_call 66; (with_reducible refine (SC.out).mono ?_); rintro e w3 ⟨rfl, hb3⟩; have HB3 := Lib.hid hb3; clear hb3) | (go_at_call 65; (with_reducible refine (net_any D C _ x1 (by omega) x3 (by omega)).mono ?_); rintro e w' ⟨rfl, rfl⟩))
      go_ret
      exact ⟨ret_i E1.out, HBW.out.trans (HB3.out.mono HBW.out.size)⟩
theorem jnet_not (A : Option Addr) (n c : Nat) (ga gm : Nat → Int) (a : Int) (w : World) (hA : AtL w A n ga gm) (HS : Hid (¬ Summ n gm)) :
    Calls Try.prog 49 #[.slice A n c, .int .i64 a] w fun e w' => e = .returned (.int .i64 0) ∧ Below w.heap.size w w' := by
  have HA := Lib.hid hA
  clear hA
  go_enter Try.func49, Try.ntmps49
  go_wp2_with (go_at_call 64; (with_reducible refine (summable_not _ _ _ ga gm _ HA.out HS).mono ?_); rintro e w2 ⟨rfl, hb2⟩; have HB := Lib.hid hb2; clear hb2)
  go_ret
  exact ⟨rfl, HB.out⟩
/-- the sum of an account, or 0 where lines may not be summed -/
theorem jnet_any (A : Option Addr) (n c : Nat) (ga gm : Nat → Int) (a : Int) (w : World) (hA : AtL w A n ga gm) : ∃ x, (Summ n gm → x = sm a ga gm n) ∧ (¬ Summ n gm → x = 0) ∧
    Calls Try.prog 49 #[.slice A n c, .int .i64 a] w fun e w' => e = .returned (.int .i64 x) ∧ Below w.heap.size w w' := by
  by_cases h : Summ n gm
  · exact ⟨_, fun _ => rfl, fun q => absurd h q, jnet_yes A n c ga gm a w hA (Lib.hid h)⟩
  · exact ⟨_, fun q => absurd q h, fun _ => rfl, jnet_not A n c ga gm a w hA (Lib.hid h)⟩
theorem Row.grown {w w1 : World} {b n : Nat} {h : Nat → Int} {row : Option Nat} (r : Row w b n h) (hg : w.grownBy w1 row) (hne : some b ≠ row) : Row w1 b n h :=
  ⟨Nat.lt_of_lt_of_le r.1 hg.size, fun j hj => ⟨(World.cell?_of_block (a := ⟨b, j, none⟩) (hg.block b r.1 hne)).trans (r.2 j hj).1, (World.frozen?_of_block (a := ⟨b, j, none⟩) (hg.block b r.1 hne)).trans (r.2 j hj).2⟩⟩
set_option maxHeartbeats 4000000 in
set_option maxRecDepth 100000 in
/-- lines put together: a line for each account that has something by S -/
theorem jmerge_by (A : Option Addr) (n c : Nat) (S : Int → Int) (w : World) (HS : Hid (∀ (a : Int) w', Below w.heap.size w w' → Calls Try.prog 49 #[.slice A n c, .int .i64 a] w' fun e w2 => e = .returned (.int .i64 (S a)) ∧ Below w'.heap.size w' w2)) :
    Calls Try.prog 29 #[.slice A n c] w fun e w' => ∃ v, e = .returned v ∧ OwnL w' 26 w.heap.size v (mc S 7) (ma S 7) (mm S 7) ∧ Below w.heap.size w w' := by
  obtain ⟨i0, hi, hz0, hz1, hz2⟩ := info_parts line_info
  go_enter Try.func29, Try.ntmps29
  go_wp2_with (go_at_call 56; (with_reducible refine (caccs_any _).mono ?_); rintro e w2 ⟨rfl, hr2, hb2⟩; have HR := Lib.hid hr2; have HB := Lib.hid hb2; clear hr2 hb2)
  go_loopg [3, 9] 7 (fun gh v i wr => ∃ k : Nat, k ≤ 7 ∧ gh = 7 - k ∧ i = .int .i64 k ∧ OwnL wr 26 w.heap.size v (mc S k) (ma S k) (mm S k) ∧ Row wr w.heap.size 7 (fun j => (j : Int) + 1) ∧ (∀ b, v.ownBlock = some b → b ≠ w.heap.size) ∧ Below w.heap.size w wr)
  case atStart => exact ⟨0, Nat.zero_le _, rfl, rfl, OwnL.nil _ _ _ _ _, HR.out, (fun b hb => by simp [Value.ownBlock] at hb), HB.out⟩
  case round =>
    obtain ⟨k, hk, hgk, rfl, ho, hr, hne, hbw⟩ := hrel
    have HGK := Lib.hid hgk
    have HBW := Lib.hid hbw
    obtain ⟨A0, c0, rfl, oc, ocm, _⟩ := ho.form
    have HO := Lib.hid ho
    have HRW := Lib.hid hr
    have HNE := Lib.hid hne
    have hmc := mc_le S k
    clear hgk hbw ho hr hne
    by_cases hlt : k < 7
    · have ck := (HRW.out.2 k hlt).1
      have NC := Lib.hid (HS.out ((k : Int) + 1) wr HBW.out)
      by_cases hq : S ((k : Int) + 1) = 0
      · have HQ := Lib.hid hq
        rw [hq] at NC
        clear hq
        go_wp2_with (go_at_call 49; (with_reducible refine (NC.out).mono ?_); rintro e w3 ⟨rfl, hb3⟩; have HB3 := Lib.hid hb3; clear hb3)
        go_roundg (7 - (k + 1))
        case measure => have := HGK.out; omega
        case rel => exact ⟨k + 1, by omega, rfl, by go_num, by unfold mm; rw [(mc_zero HQ.out).1, (mc_zero HQ.out).2]; exact HO.out.below HB3.out, HRW.out.below HB3.out, HNE.out, HBW.out.trans (HB3.out.mono HBW.out.size)⟩
      · have HQ := Lib.hid hq
        obtain ⟨x, hx⟩ : ∃ x, S ((k : Int) + 1) = x := ⟨_, rfl⟩
        rw [hx] at NC
        have HX := Lib.hid hx
        have hx0 : (x == 0) = false := by rw [← hx]; simpa using hq
        have hx1 : (x != 0) = true := by rw [← hx]; simpa using hq
        clear hq hx
        go_wp2_with fail
        refine (NC.out).mono ?_
        rintro e w3 ⟨rfl, hb3⟩
        have hz3 := hb3.size
        have hz2' := HBW.out.size
        have HB3 := Lib.hid hb3
        clear hb3
        go_wp2_with (at_builtin; (refine wpList_push_l rfl (.tmp 18) (.tmp 22) rfl line_type hi hz0 hz1 hz2 w w.heap.size (mc S k) w3.heap.size _ (ma S k) (mm S k) ((k : Int) + 1) x rfl rfl (by simp) (by simp) ((HO.out.below HB3.out).alloc _) (by omega) ((HBW.out.trans (HB3.out.mono HBW.out.size)).alloc (by omega) _) (by simp; omega) _ rfl ?_; intro b1 c1 w' ho' hb' hg' hat'; have HO' := Lib.hid ho'; have HB' := Lib.hid hb'; have HAT := Lib.hid hat'; have HG := Lib.hid hg'; clear ho' hg' hat' hb'))
        go_roundg (7 - (k + 1))
        case measure => have := HGK.out; omega
        case rel =>
          have hr3 := HRW.out.below (HB3.out.alloc hz3 (Obj.cells #[Value.int IntKind.i64 ((k : Int) + 1), Value.int IntKind.i64 x] 26))
          refine ⟨k + 1, by omega, rfl, by go_num, ?_, ?_, ?_, HB'.out⟩
          · rw [(mc_some HQ.out).1]
            refine HO'.out.ext fun j hj => ?_
            unfold mm
            rw [ma_at HQ.out]
            by_cases q : j = mc S k
            · rw [if_pos q, if_pos q, HX.out]; exact ⟨rfl, rfl⟩
            · rw [if_neg q, if_neg q]; exact ⟨rfl, rfl⟩
          · exact hr3.grown HG.out fun e => HNE.out _ e.symm rfl
          · intro b hb
            have : b1 = b := by simpa [Value.ownBlock] using hb
            subst this
            rcases HAT.out with h | h
            · exact HNE.out _ h
            · simp at h; omega
    · obtain rfl : k = 7 := by omega
      clear hlt
      go_wp2
      go_ret
      exact ⟨_, rfl, HO.out, HBW.out⟩
theorem jmerge_yes (A : Option Addr) (n c : Nat) (ga gm : Nat → Int) (w : World) (hA : AtL w A n ga gm) (HS : Hid (Summ n gm)) :
    Calls Try.prog 29 #[.slice A n c] w fun e w' => ∃ v, e = .returned v ∧ OwnL w' 26 w.heap.size v (mc (smf ga gm n) 7) (ma (smf ga gm n) 7) (mm (smf ga gm n) 7) ∧ Below w.heap.size w w' :=
  jmerge_by A n c (smf ga gm n) w (Lib.hid fun a w' hb => jnet_yes A n c ga gm a w' (hA.below hb) HS)
theorem mc_none : ∀ k, mc (fun _ => 0) k = 0
  | 0 => rfl
  | k + 1 => by rw [mc, if_pos rfl, mc_none k]
theorem jmerge_not (A : Option Addr) (n c : Nat) (ga gm : Nat → Int) (w : World) (hA : AtL w A n ga gm) (HS : Hid (¬ Summ n gm)) :
    Calls Try.prog 29 #[.slice A n c] w fun e w' => ∃ v, e = .returned v ∧ OwnL w' 26 w.heap.size v 0 (fun _ => 0) (fun _ => 0) ∧ Below w.heap.size w w' := by
  have := jmerge_by A n c (fun _ => 0) w (Lib.hid fun a w' hb => jnet_not A n c ga gm a w' (hA.below hb) HS)
  rw [mc_none] at this
  refine this.mono ?_
  rintro e w' ⟨v, rfl, ho, hb⟩
  exact ⟨v, rfl, ho.ext fun j hj => by omega, hb⟩
end Go.Proofs.Ytpbpflhoeidpnaa
