/- Package store: Post: a contract. -/
import Derived.Test.YtpbpflhoeidpnaaStore4
import Derived.WalkKit
import Derived.WalkSpells
import Derived.WalkLawsBesides
import Derived.Lib.Hide
import Derived.Deep.RegionLaw
namespace Go.Proofs.Ytpbpflhoeidpnaa
open Go.RowKit

section
variable {w : World} {O : Nat → Nat} {base t sb n : Nat} {v : Value} {L : Nat → Value} {js : Nat → Jn}
set_option maxHeartbeats 4000000 in
set_option maxRecDepth 100000 in
/-- a journal that is refused -/
theorem post_no (s : StV w O base t sb v L n js) (ent : ByteArray) (p kd of : Int) (m : Nat) (ga gm : Nat → Int) (l : Value) (e : Int) (hl : SomeL l w m ga gm) (hln : m ≤ 1000000) (h : PErr js n ent p kd of m ga gm e) (he : e ≠ 0) :
    Calls Try.prog 14 #[ptr sb, .string ent, .int .i64 p, .int .i64 kd, .int .i64 of, l] w fun r w' => r = .returned (.tuple #[.int .i64 0, .int .i64 e]) ∧ Below w.heap.size w w' := by
  have CK := Lib.hid fun w' hb => check_any (StV.below s (w1 := w') hb) ⟨(n : Int) + 1, ent, p, kd, of, m, ga, gm⟩ l e (hl.below hb) hln h
  obtain ⟨A, c, rfl, hmc, hcm, hN, hA⟩ := hl
  obtain ⟨A0, c0, rfl, hnc, hcm0, _⟩ := s.own.form
  have hn := s.inv.1
  have sc := s.cell
  have he1 : (e != 0) = true := by simpa using he
  clear s hA hN h he
  go_enter Try.func14, Try.ntmps14
  go_wp2_with fail
  refine (CK.out _ ((Below.refl _ _).alloc (Nat.le_refl _) _)).mono ?_
  rintro r w1 ⟨rfl, hb1⟩
  obtain ⟨_, _, _, hb⟩ := one_cells hb1
  have HB := Lib.hid hb
  clear hb hb1
  go_wp2
  go_ret2
  exact ⟨rfl, HB.out⟩
set_option maxHeartbeats 4000000 in
set_option maxRecDepth 100000 in
/-- a journal that is taken -/
theorem post_ok (s : StV w O base t sb v L n js) (f : Fin0 base O w) (ht : t ≠ 0) (hbase : base ≤ w.heap.size) (ent : ByteArray) (p kd of : Int) (m : Nat) (ga gm : Nat → Int) (l : Value) (hl : SomeL l w m ga gm) (h : PErr js n ent p kd of m ga gm 0) :
    Calls Try.prog 14 #[ptr sb, .string ent, .int .i64 p, .int .i64 kd, .int .i64 of, l] w fun r w' => r = .returned (.tuple #[.int .i64 ((n : Int) + 1), .int .i64 0]) ∧
      ∃ O', St w' O' base t sb (n + 1) (pushJ js n ⟨(n : Int) + 1, ent, p, kd, of, m, ga, gm⟩) ∧ Step base O t w O' w' := by
  have hm20 := h.good.2.1.1
  have hn2 := h.good.2.2.1
  have IV := Lib.hid (s.inv.push (s := (n : Int) + 1) h)
  have CK := Lib.hid fun w' hb => check_any (StV.below s (w1 := w') hb) ⟨(n : Int) + 1, ent, p, kd, of, m, ga, gm⟩ l 0 (hl.below hb) (by show m ≤ 1000000; omega) h
  have HSL := Lib.hid hl
  obtain ⟨A, c, rfl, hmc, hcm, hN, hA⟩ := hl
  obtain ⟨A0, c0, rfl, hnc, hcm0, _⟩ := s.own.form
  have sc := s.cell
  have hsb := s.lt
  have HS := Lib.hid s
  have HF := Lib.hid f
  clear s hA hN h f
  go_enter Try.func14, Try.ntmps14
  go_wp2_with fail
  refine (CK.out _ ((Below.refl _ _).alloc (Nat.le_refl _) _)).mono ?_
  rintro r w1 ⟨rfl, hb1⟩
  obtain ⟨hc, _, hz, hb⟩ := one_cells hb1
  have HB := Lib.hid hb
  have hx : JC w1 w.heap.size 0 ⟨(n : Int) + 1, ent, p, kd, of, m, ga, gm⟩ (.slice A m c) := ⟨hc 0, hc 1, hc 2, hc 3, hc 4, hc 5⟩
  obtain ⟨q0, q1, q2, q3, q4, q5⟩ := JC.six hx
  have sc1 := cell_keep sc hb
  have hsb1 := Nat.lt_of_lt_of_le hsb hb.size
  clear hc hb hb1 hx sc
  go_wp2
  go_region_law (first | (refine step_push_j rfl (.tmp 38) (.tmp 41) rfl base n w2.heap.size (.slice A0 n c0) L js ⟨(n : Int) + 1, ent, p, kd, of, m, ga, gm⟩ (.slice A2 m c2) rfl rfl (JC.lit _ ⟨(n : Int) + 1, ent, p, kd, of, m, ga, gm⟩ _ _) rfl (HS2.out.own.alloc _) (by omega) (by simp; omega) (w2.heap.size + 1) (by simp) ?_; intro b3 c3 w3 ho3 hg3 hat3; have sc3 : w3.cell? ⟨sb, 0, none⟩ = some (.slice A0 n c0) := hg3.cell (((Below.refl _ _).alloc (Nat.le_refl _) _).cell (p := ⟨sb, 0, none⟩) hsb2 |>.trans sc2) (fun e => (HS2.out.vtag _ e.symm).2 rfl); have fz3 : w3.frozen? ⟨sb, 0, none⟩ = false := (World.frozen?_of_block (hg3.block sb (by simp; omega) (fun e => (HS2.out.vtag _ e.symm).2 rfl))).trans (((Below.refl _ _).alloc (Nat.le_refl _) _).frozen (p := ⟨sb, 0, none⟩) hsb2 |>.trans HS2.out.frz); have HO3 := Lib.hid ho3; have HG3 := Lib.hid hg3; have HAT3 := Lib.hid hat3; clear ho3 hg3 hat3) | (go_simp; go_at_call 48; refine (copied_any ⟨(n : Int) + 1, ent, p, kd, of, m, ga, gm⟩ (.slice A m c) _ ((HSL.out.below HB.out).below (below_drew _)) (by show m ≤ 1000000; omega)).mono ?_; rintro r w2 ⟨l2, rfl, ho2, hb2⟩; obtain ⟨A2, c2, rfl, _, _, _⟩ := ho2.form; have HB2 := Lib.hid (HB.out.trans (((below_drew _).trans hb2).mono HB.out.size)); have HS2 := Lib.hid (HS.out.below HB2.out); have sc2 := HS2.out.cell; have hsb2 := HS2.out.lt; have hz2 := HB2.out.size; have HO2 := Lib.hid ho2; have r0 := cell_keep (w := w1.drew) q0 hb2; clear ho2 hb2))
  all_goals
    have g0 := HG3.out.cell (a := ⟨w.heap.size, 0, none⟩) (v := .int .i64 ((n : Int) + 1)) (((Below.refl _ _).alloc (Nat.le_refl _) _).cell (p := ⟨w.heap.size, 0, none⟩) (by have := HB2.out.size; show w.heap.size < w2.heap.size; exact World.block_lt_of_cell? _ _ r0) |>.trans r0) (fun e => by have := (HS.out.own.lt _ e.symm).2; simp at this)
    have hne : sb ≠ w.heap.size := by omega
    have g1 : (w3.setCell ⟨sb, 0, none⟩ (.slice (some ⟨b3, 0, none⟩) (n + 1) c3)).cell? ⟨w.heap.size, 0, none⟩ = some (.int .i64 ((n : Int) + 1)) := by
      rw [World.cell?_setCell_other _ _ _ _ (by intro q; injection q with q; exact hne q)]; exact g0
    obtain ⟨O', p1, p2⟩ := HS.out.pushed HF.out ht (HB2.out.alloc hz2 _) HG3.out HO3.out HAT3.out (by simp) ((HO2.out.alloc _).someL) (fun b hb => Nat.le_trans HB.out.size (World.ownsRow.lt HO2.out b hb).1) IV.out
    have P1 := Lib.hid p1
    have P2 := Lib.hid p2
    clear p1 p2 g0 sc3 fz3
    go_wp2
    go_ret2
    exact ⟨rfl, O', P1.out, P2.out⟩
end
end Go.Proofs.Ytpbpflhoeidpnaa
