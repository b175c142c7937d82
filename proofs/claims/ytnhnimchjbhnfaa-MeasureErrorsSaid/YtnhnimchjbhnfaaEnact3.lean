/- Package enact: Add: a contract, by why a rate is refused. -/
import Derived.Test.YtnhnimchjbhnfaaEnact2
import Derived.WalkKit
import Derived.WalkSpells
import Derived.WalkLawsBesides
import Derived.Lib.Hide
import Derived.IntWalk
import Derived.Deep.LoopGhost
import Derived.Deep.QuietTactic
import Derived.BigQuiet
import Derived.Deep.RegionHeld3
import Derived.Deep.RegionLaw
namespace Go.Proofs.Ytnhnimchjbhnfaa
open Go.RowKit

section
variable {w w1 : World} {O O1 : Nat → Nat} {base t t' sb n : Nat} {v : Value} {R : Nat → Rt} {E : TypeId}
/-- one rate more -/
theorem TabV.pushed (s : TabV E w O base t sb v n R) (fn : Fin0 base O w) {x : Rt} (hx : TErr R n x.j x.y x.r x.p 0) {w2 : World} {b2 c2 H : Nat} (b1 : Below w.heap.size w w1) (g : w1.grownBy w2 v.ownBlock)
    (o2 : OwnR re 4 w2 E base (.slice (some ⟨b2, 0, none⟩) (n + 1) c2) (n + 1) (fun j => if j = n then x else R j)) (hat : v.ownBlock = some b2 ∨ b2 = H) (hH : w1.heap.size ≤ H) :
    TabV E (w2.setCell ⟨sb, 0, none⟩ (.slice (some ⟨b2, 0, none⟩) (n + 1) c2)) (mark O t b2) base t sb (.slice (some ⟨b2, 0, none⟩) (n + 1) c2) (n + 1) (pushT R n x) ∧
      Step base O t w (mark O t b2) (w2.setCell ⟨sb, 0, none⟩ (.slice (some ⟨b2, 0, none⟩) (n + 1) c2)) := by
  have hd1 := s.hd.below b1
  have hl := World.ownsRow.lt o2 b2 rfl
  have hne : b2 ≠ sb := by
    rcases hat with q | q
    · exact (s.row.tag b2 q).2
    · have := hd1.lt; omega
  have k1 := Step.of_below (t := t) fn b1
  have k2 := Step.grown (t := t) k1.fin g (fun b hb => (s.row.tag b hb).1) hat hH hl.1 hl.2
  have hd2 := (hd1.block (O1 := O) (g.block sb hd1.lt fun e => (s.row.tag sb e.symm).2 rfl) g.size rfl).marked b2
  have k3 := Step.set (t := t) k2.fin 0 (.slice (some ⟨b2, 0, none⟩) (n + 1) c2) hd2.tag
  have hd3 := hd2.set 0 (.slice (some ⟨b2, 0, none⟩) (n + 1) c2) (by simp)
  refine ⟨⟨hd3, ⟨?_, fun b hb => ?_⟩, s.inv.push hx⟩, k1.trans (k2.trans k3)⟩
  · refine own_blocks o2 fun b hb => ?_
    have : b2 = b := by simpa [Value.ownBlock] using hb
    subst this
    exact Below.heap_setCell _ _ _ _ hne
  · have : b2 = b := by simpa [Value.ownBlock] using hb
    subst this
    exact ⟨mark_at _ _ _, hne⟩
set_option maxHeartbeats 4000000 in
set_option maxRecDepth 100000 in
theorem eadd_no (s : TabV 63 w O base t sb v n R) (x : Rt) (e : Int) (he : TErr R n x.j x.y x.r x.p e) (h0 : e ≠ 0) :
    Calls Try.prog 10 #[ptr sb, .string x.j, .int .i64 x.y, .int .i64 x.r, .int .i64 x.p] w fun e' w' => e' = .returned (.int .i64 e) ∧ Below w.heap.size w w' := by
  have HS := Lib.hid s
  have WB := Lib.hid ((Below.refl w.heap.size w).alloc (Nat.le_refl _) (.cells #[.string x.j, .int .i64 x.y, .int .i64 x.r, .int .i64 x.p] 63))
  have NL := Lib.hid (rec_lit w (re x) 63 w.heap.size rfl)
  have hn := s.inv.le
  cases he
  case ok => exact absurd rfl h0
  case arg ha =>
    have RN := Lib.hid fun w => eright_no x w ha
    clear s ha h0
    go_enter Try.func10, Try.ntmps10
    go_wp2_with fail
    refine (RN.out _).mono ?_
    rintro e w1 ⟨rfl, hb⟩
    have HB := Lib.hid (WB.out.trans (hb.mono WB.out.size))
    clear hb
    go_wp2
    go_ret
    exact ⟨rfl, HB.out⟩
  case there ha ht =>
    have RY := Lib.hid fun w => eright_yes x w ha
    have HT := Lib.hid ht
    clear s ha h0 ht
    go_enter Try.func10, Try.ntmps10
    go_wp2_with fail
    refine (RY.out _).mono ?_
    rintro e w1 ⟨rfl, hb⟩
    have HB := Lib.hid (WB.out.trans (hb.mono WB.out.size))
    have k0 := cell_keep (NL.out 0 _ rfl) hb
    have k1 := cell_keep (NL.out 1 _ rfl) hb
    have k2 := cell_keep (NL.out 2 _ rfl) hb
    have k3 := cell_keep (NL.out 3 _ rfl) hb
    have CH := Lib.hid (ehas_any (HS.out.below HB.out) x true ⟨fun _ => HT.out, fun _ => rfl⟩)
    clear hb
    go_wp2_with fail
    refine (CH.out).mono ?_
    rintro e w2 ⟨rfl, hb⟩
    have HB2 := Lib.hid (HB.out.trans (hb.mono HB.out.size))
    clear hb
    go_wp2
    go_ret
    exact ⟨rfl, HB2.out⟩
  case limit ha ht hl =>
    have RY := Lib.hid fun w => eright_yes x w ha
    have HT := Lib.hid ht
    have HL := Lib.hid hl
    clear s ha h0 ht hl
    go_enter Try.func10, Try.ntmps10
    go_wp2_with fail
    refine (RY.out _).mono ?_
    rintro e w1 ⟨rfl, hb⟩
    have HB := Lib.hid (WB.out.trans (hb.mono WB.out.size))
    have k0 := cell_keep (NL.out 0 _ rfl) hb
    have k1 := cell_keep (NL.out 1 _ rfl) hb
    have k2 := cell_keep (NL.out 2 _ rfl) hb
    have k3 := cell_keep (NL.out 3 _ rfl) hb
    have CH := Lib.hid (ehas_any (HS.out.below HB.out) x false ⟨fun q => Bool.noConfusion q, fun q => absurd q HT.out⟩)
    clear hb
    go_wp2_with fail
    refine (CH.out).mono ?_
    rintro e w2 ⟨rfl, hb⟩
    have HB2 := Lib.hid (HB.out.trans (hb.mono HB.out.size))
    have c0 := (HS.out.below HB2.out).hd.c0
    obtain ⟨A, c, rfl, hc, hm, _⟩ := HS.out.row.form
    have hl := HL.out
    clear hb
    go_wp2
    go_ret
    exact ⟨rfl, HB2.out⟩
set_option maxHeartbeats 4000000 in
set_option maxRecDepth 100000 in
theorem eadd_ok (s : TabV 63 w O base t sb v n R) (fn : Fin0 base O w) (hbase : base ≤ w.heap.size) (x : Rt) (he : TErr R n x.j x.y x.r x.p 0) :
    Calls Try.prog 10 #[ptr sb, .string x.j, .int .i64 x.y, .int .i64 x.r, .int .i64 x.p] w fun e' w' => e' = .returned (.int .i64 0) ∧ ∃ v' O', TabV 63 w' O' base t sb v' (n + 1) (pushT R n x) ∧ Step base O t w O' w' := by
  obtain ⟨i0, hi, hz0, hz1, hz2⟩ := info_parts row_info
  have HS := Lib.hid s
  have HF := Lib.hid fn
  have WB := Lib.hid ((Below.refl w.heap.size w).alloc (Nat.le_refl _) (.cells #[.string x.j, .int .i64 x.y, .int .i64 x.r, .int .i64 x.p] 63))
  have NL := Lib.hid (rec_lit w (re x) 63 w.heap.size rfl)
  have HE := Lib.hid he
  obtain ⟨ha, ht, hn⟩ := he.row
  have RY := Lib.hid fun w => eright_yes x w ha
  have HT := Lib.hid ht
  clear s ha ht fn he
  go_enter Try.func10, Try.ntmps10
  go_wp2_with fail
  refine (RY.out _).mono ?_
  rintro e w1 ⟨rfl, hb⟩
  have HB := Lib.hid (WB.out.trans (hb.mono WB.out.size))
  have k0 := cell_keep (NL.out 0 _ rfl) hb
  have k1 := cell_keep (NL.out 1 _ rfl) hb
  have k2 := cell_keep (NL.out 2 _ rfl) hb
  have k3 := cell_keep (NL.out 3 _ rfl) hb
  have l1 : w.heap.size < w1.heap.size := by have := hb.size; simp at this; omega
  have CH := Lib.hid (ehas_any (HS.out.below HB.out) x false ⟨fun q => Bool.noConfusion q, fun q => absurd q HT.out⟩)
  clear hb
  go_wp2_with fail
  refine (CH.out).mono ?_
  rintro e w2 ⟨rfl, hb⟩
  replace k0 := cell_keep k0 hb
  replace k1 := cell_keep k1 hb
  replace k2 := cell_keep k2 hb
  replace k3 := cell_keep k3 hb
  have HB2 := Lib.hid (HB.out.trans (hb.mono HB.out.size))
  have l2 : w.heap.size < w2.heap.size := by have := hb.size; omega
  have S1 := Lib.hid (HS.out.below HB2.out)
  have F1 := Lib.hid (HF.out.below HB2.out)
  have B1 := Lib.hid (Step.of_below (t := t) HF.out HB2.out)
  have z1 : base ≤ w2.heap.size := by omega
  have c0 := S1.out.hd.c0
  have f0 := S1.out.hd.frz 0
  have lt1 := S1.out.hd.lt
  have g0 : w2.frozen? ⟨sb, 0, none⟩ = false := f0
  obtain ⟨A, c, rfl, hc, hm, _⟩ := HS.out.row.form
  clear hb f0
  go_wp2
  go_region_law ((refine step_push_r rfl (.tmp 33) (.tmp 35) rfl row_type hi hz0 hz1 hz2 (by decide) rfl (by decide) re_len re_one w2 base n w2.heap.size _ R x rfl rfl (rec_lit w2.drew (re x) 63 _ rfl) (World.ownsRow.alloc S1.out.own _) (by omega) ((Below.refl _ _).drew.alloc z1 _) (by simp; omega) _ rfl ?_; intro b2 c3 w3 ho2 hb2 hg2 hat2; have hd2 : Head w3 O t sb _ := Head.block (O1 := O) (S1.out.hd.below ((Below.refl _ _).drew.alloc (Nat.le_refl _) _)) (hg2.block sb (by simp; omega) (fun e => (S1.out.row.tag sb e.symm).2 rfl)) hg2.size rfl; have d0 := hd2.c0; have e0 := hd2.frz 0; have HD2 := Lib.hid hd2; have HO2 := Lib.hid ho2; have HG2 := Lib.hid hg2; have HAT := Lib.hid hat2; clear hd2 ho2 hb2 hg2 hat2))
  all_goals
    go_wp2
    go_ret
    obtain ⟨q1, q2⟩ := TabV.pushed S1.out F1.out HE.out ((Below.refl _ _).drew.alloc (Nat.le_refl _) _) HG2.out HO2.out HAT.out (by simp)
    exact ⟨rfl, _, _, q1, B1.out.trans q2⟩
end
end Go.Proofs.Ytnhnimchjbhnfaa
