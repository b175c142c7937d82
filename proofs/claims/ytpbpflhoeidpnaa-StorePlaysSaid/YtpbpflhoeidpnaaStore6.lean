/- Package store: Trial, Journals, Clone: a contract for each. -/
import Derived.Test.YtpbpflhoeidpnaaStore5
import Derived.WalkKit
import Derived.WalkSpells
import Derived.WalkLawsBesides
import Derived.Lib.Hide
import Derived.Deep.LoopGhost
import Derived.Laws.MakeOwn
namespace Go.Proofs.Ytpbpflhoeidpnaa
open Go.RowKit

/-- no journal -/
def jz : Jn := ⟨0, ⟨#[]⟩, 0, 0, 0, 0, fun _ => 0, fun _ => 0⟩
/-- a new list of n empty journals -/
theorem make_j (n : Nat) (hn : n ≤ 1000000) (w : World) :
    (Instr.makeSlice 33 (.int .i64 (n : Int)) (.int .i64 (n : Int))).run Try.prog w = .ok (.slice (some ⟨w.heap.size, 0, none⟩) n n) (w.alloc (.cells (madeCells #[.int .i64 0, .string ⟨#[]⟩, .int .i64 0, .int .i64 0, .int .i64 0, .slice none 0 0] (n * 6)) 44)) := by
  obtain ⟨i, hi, hz, hsize, hby⟩ := info_parts jr_info
  have r := run_make (P := Try.prog) w _ _ i _ jr_type hi hz .i64 .i64 n n (by omega) (by omega) (by rw [hby]; omega) (by omega)
  rw [hsize] at r
  simp only [Int.toNat_natCast] at r
  exact r
theorem made_j (w : World) (n : Nat) (hn : n ≤ 1000000) : OwnJ (w.alloc (.cells (madeCells #[.int .i64 0, .string ⟨#[]⟩, .int .i64 0, .int .i64 0, .int .i64 0, .slice none 0 0] (n * 6)) 44)) w.heap.size (.slice (some ⟨w.heap.size, 0, none⟩) n n) n (fun _ => .slice none 0 0) (fun _ => jz) := by
  have e : (madeCells #[.int .i64 0, .string ⟨#[]⟩, .int .i64 0, .int .i64 0, .int .i64 0, .slice none 0 0] (n * 6)).toList = (List.range (n * 6)).map (jf (fun _ => .slice none 0 0) (fun _ => jz)) := by
    apply List.ext_getElem (by simp [size_madeCells])
    intro j h1 h2
    rcases (show j % 6 = 0 ∨ j % 6 = 1 ∨ j % 6 = 2 ∨ j % 6 = 3 ∨ j % 6 = 4 ∨ j % 6 = 5 by omega) with q | q | q | q | q | q <;> simp [madeCells, jf, jz, q]
  unfold OwnJ; rw [← e]
  exact World.ownsRow_lit w _ n (Nat.le_refl _) (by unfold maxLen; omega) (size_madeCells _ _)
section
variable {w : World} {O : Nat → Nat} {base t sb n : Nat} {v : Value} {L : Nat → Value} {js : Nat → Jn}
set_option maxHeartbeats 4000000 in
set_option maxRecDepth 100000 in
theorem trial_any (s : StV w O base t sb v L n js) (ent : ByteArray) (u : Int) (S : Int → Int) (hS : ∀ a, bal js n ent a u = S a) :
    Calls Try.prog 18 #[ptr sb, .string ent, .int .i64 u] w fun e w' => ∃ v, e = .returned v ∧ OwnL w' 26 w.heap.size v (mc S 7) (ma S 7) (mm S 7) ∧ Below w.heap.size w w' := by
  obtain ⟨i0, hi, hz0, hz1, hz2⟩ := info_parts line_info
  have BC : Hid (∀ a w', Below w.heap.size w w' → Calls Try.prog 17 #[ptr sb, .string ent, .int .i64 a, .int .i64 u] w' fun e w2 => e = .returned (.int .i64 (S a)) ∧ Below w'.heap.size w' w2) := Lib.hid fun a w' hb => by rw [← hS]; exact balance_any (s.below hb) ent a u
  clear s hS
  go_enter Try.func18, Try.ntmps18
  go_wp2
  go_loopg [7, 8] 7 (fun gh v i wr => ∃ k : Nat, k ≤ 7 ∧ gh = 7 - k ∧ i = .int .i64 ((k : Int) + 1) ∧ OwnL wr 26 w.heap.size v (mc S k) (ma S k) (mm S k) ∧ Below w.heap.size w wr)
  case atStart => exact ⟨0, Nat.zero_le _, rfl, rfl, OwnL.nil _ _ _ _ _, Below.refl _ _⟩
  case round =>
    obtain ⟨k, hk, hgk, rfl, ho, hbw⟩ := hrel
    have HGK := Lib.hid hgk
    have HBW := Lib.hid hbw
    obtain ⟨A0, c0, rfl, oc, ocm, _⟩ := ho.form
    have HO := Lib.hid ho
    have hmc := mc_le S k
    clear hgk hbw ho
    by_cases hlt : k < 7
    · have NC := Lib.hid (BC.out ((k : Int) + 1) wr HBW.out)
      by_cases hq : S ((k : Int) + 1) = 0
      · have HQ := Lib.hid hq
        rw [hq] at NC
        clear hq
        go_wp2_with (go_at_call 17; (with_reducible refine (NC.out).mono ?_); rintro e w3 ⟨rfl, hb3⟩; have HB3 := Lib.hid hb3; clear hb3)
        go_roundg (7 - (k + 1))
        case measure => have := HGK.out; omega
        case rel => exact ⟨k + 1, by omega, rfl, by go_num, by unfold mm; rw [(mc_zero HQ.out).1, (mc_zero HQ.out).2]; exact HO.out.below HB3.out, HBW.out.trans (HB3.out.mono HBW.out.size)⟩
      · have HQ := Lib.hid hq
        obtain ⟨x, hx⟩ : ∃ x, S ((k : Int) + 1) = x := ⟨_, rfl⟩
        rw [hx] at NC
        have HX := Lib.hid hx
        have hx0 : (x == 0) = false := by rw [← hx]; simpa using hq
        have hx1 : (x != 0) = true := by rw [← hx]; simpa using hq
        clear hq hx
        go_wp2_with fail
        refine (NC.out).mono ?_
        rintro e w3 ⟨rfl, hb3⟩
        have hz3 := hb3.size
        have hz2' := HBW.out.size
        have HB3 := Lib.hid hb3
        clear hb3
        go_wp2_with (at_builtin; (refine wpList_push_l rfl (.tmp 21) (.tmp 25) rfl line_type hi hz0 hz1 hz2 w w.heap.size (mc S k) w3.heap.size _ (ma S k) (mm S k) ((k : Int) + 1) x rfl rfl (by simp) (by simp) ((HO.out.below HB3.out).alloc _) (by omega) ((HBW.out.trans (HB3.out.mono HBW.out.size)).alloc (by omega) _) (by simp; omega) _ rfl ?_; intro b1 c1 w' ho' hb' hg' hat'; have HO' := Lib.hid ho'; have HB' := Lib.hid hb'; clear ho' hg' hat' hb'))
        go_roundg (7 - (k + 1))
        case measure => have := HGK.out; omega
        case rel =>
          refine ⟨k + 1, by omega, rfl, by go_num, ?_, HB'.out⟩
          rw [(mc_some HQ.out).1]
          refine HO'.out.ext fun j hj => ?_
          unfold mm
          rw [ma_at HQ.out]
          by_cases q : j = mc S k
          · rw [if_pos q, if_pos q, HX.out]; exact ⟨rfl, rfl⟩
          · rw [if_neg q, if_neg q]; exact ⟨rfl, rfl⟩
    · obtain rfl : k = 7 := by omega
      clear hlt
      go_wp2
      go_ret
      exact ⟨_, rfl, HO.out, HBW.out⟩
/-- journals as they are told: new memory, the lines' memory apart from the list's -/
def Told (w0 w : World) (n : Nat) (L : Nat → Value) (js : Nat → Jn) : Prop :=
  OwnJ w w0.heap.size (.slice (some ⟨w0.heap.size, 0, none⟩) n n) n L js ∧ (∀ j, j < n → OwnL w 26 (w0.heap.size + 1) (L j) (js j).n (js j).ga (js j).gm)
set_option maxHeartbeats 4000000 in
set_option maxRecDepth 100000 in
theorem journals_any (s : StV w O base t sb v L n js) :
    Calls Try.prog 15 #[ptr sb] w fun e w' => e = .returned (.slice (some ⟨w.heap.size, 0, none⟩) n n) ∧ (∃ L', Told w w' n L' js) ∧ Below w.heap.size w w' := by
  have hn := s.inv.1
  have sc := s.cell
  have hsb := s.lt
  obtain ⟨A, c, rfl, h1, h2, h3⟩ := s.own.form
  have HS := Lib.hid s
  have hmk := make_j n (by omega)
  have HO1 := Lib.hid (made_j w n (by omega))
  have HB1 := Lib.hid ((Below.refl w.heap.size w).alloc (Nat.le_refl _) (.cells (madeCells #[.int .i64 0, .string ⟨#[]⟩, .int .i64 0, .int .i64 0, .int .i64 0, .slice none 0 0] (n * 6)) 44))
  clear s h3
  go_enter Try.func15, Try.ntmps15
  go_wp2
  clear hmk
  go_loopg [17] n (fun gh i wr => ∃ (k : Nat) (L' : Nat → Value), k ≤ n ∧ gh = n - k ∧ i = .int .i64 k ∧ OwnJ wr w.heap.size (.slice (some ⟨w.heap.size, 0, none⟩) n n) n (fun j => if j < k then L' j else .slice none 0 0) (fun j => if j < k then js j else jz) ∧ (∀ j, j < k → OwnL wr 26 (w.heap.size + 1) (L' j) (js j).n (js j).ga (js j).gm) ∧ Below w.heap.size w wr)
  case atStart => exact ⟨0, fun _ => .slice none 0 0, Nat.zero_le _, by omega, rfl, HO1.out.ext fun j hj => ⟨(if_neg (by omega)).symm, (if_neg (by omega)).symm⟩, fun j hj => by omega, HB1.out⟩
  case round =>
    obtain ⟨k, L', hk, hgk, rfl, ho, hl, hbw⟩ := hrel
    have HGK := Lib.hid hgk
    have HB := Lib.hid hbw
    have HO := Lib.hid ho
    have HL := Lib.hid hl
    clear hgk hbw ho hl
    by_cases hlt : k < n
    · obtain ⟨b, rfl, hb, h5⟩ := HS.out.at k hlt
      obtain ⟨c0, c1, c2, c3, c4, c5⟩ := h5.below hb HB.out
      have SL := Lib.hid ((HS.out.lines k hlt).1.below HB.out)
      obtain ⟨Ak, ck, hL, k1, k2, k3, k4⟩ := SL.out
      have hm := (HS.out.inv.2.1 k hlt).1.1
      rw [hL] at c5 SL
      obtain ⟨hlb, hj⟩ := ownJ_at HO.out k hlt
      obtain ⟨d0, d1, d2, d3, d4, d5⟩ := hj
      have f0 := World.ownsRow.frozenAt HO.out (k * 6)
      have f1 := World.ownsRow.frozenAt HO.out (k * 6 + 1)
      have f2 := World.ownsRow.frozenAt HO.out (k * 6 + 2)
      have f3 := World.ownsRow.frozenAt HO.out (k * 6 + 3)
      have f4 := World.ownsRow.frozenAt HO.out (k * 6 + 4)
      have f5 := World.ownsRow.frozenAt HO.out (k * 6 + 5)
      clear h5 hL k3 k4
      go_wp2_with fail
      clear c0 c1 c2 c3 c4 c5
      refine (copied_any (js k) (.slice Ak (js k).n ck) _ (SL.out.below ((Below.refl _ _).alloc (Nat.le_refl _) _)) (by omega)).mono ?_
      rintro e w2 ⟨l2, rfl, ho2, hb2⟩
      obtain ⟨A2, c2, rfl, _, _, _⟩ := ho2.form
      have hbw2 := ((Below.refl wr.heap.size wr).alloc (Nat.le_refl _) _).trans (hb2.mono (by simp))
      obtain ⟨hc2, hf2⟩ := bcell hbw2
      replace d0 := (hc2 _ _ hlb).trans d0
      replace d1 := (hc2 _ _ hlb).trans d1
      replace d2 := (hc2 _ _ hlb).trans d2
      replace d3 := (hc2 _ _ hlb).trans d3
      replace d4 := (hc2 _ _ hlb).trans d4
      replace d5 := (hc2 _ _ hlb).trans d5
      rw [if_neg (by omega)] at d0 d1 d2 d3 d4 d5
      replace f0 := (hf2 _ _ hlb).trans f0
      replace f1 := (hf2 _ _ hlb).trans f1
      replace f2 := (hf2 _ _ hlb).trans f2
      replace f3 := (hf2 _ _ hlb).trans f3
      replace f4 := (hf2 _ _ hlb).trans f4
      replace f5 := (hf2 _ _ hlb).trans f5
      have HO2 := Lib.hid ho2
      have HBW2 := Lib.hid hbw2
      clear hc2 hf2 ho2 hb2 hbw2
      go_wp2
      go_roundg (n - (k + 1))
      case measure => have := HGK.out; omega
      case rel =>
        have o2 := (HO.out.below HBW2.out).set (k := k) (js k) (.slice A2 (js k).n c2)
        have bz := HB.out.size
        refine ⟨k + 1, fun j => if j = k then .slice A2 (js k).n c2 else L' j, by omega, rfl, by go_num, o2.ext fun j hj => ?_, fun j hj => ?_, set6_below (HB.out.trans (HBW2.out.mono HB.out.size)) (Nat.le_refl _)⟩
        · by_cases q : j = k
          · rw [q]; simp
          · by_cases p : j < k
            · simp [q, p, show j < k + 1 by omega]
            · simp [q, p, show ¬ j < k + 1 by omega]
        · by_cases q : j = k
          · subst q
            simp only [if_true]
            refine ownL_blocks (HO2.out.mono (by simp; omega)) fun b' h' => ?_
            have := (World.ownsRow.lt HO2.out b' h').1
            exact set6_block _ _ _ _ _ _ (by simp at this; omega)
          · simp only [if_neg q]
            have o3 := HL.out j (by omega)
            refine ownL_blocks (o3.below HBW2.out) fun b' h' => ?_
            have := (World.ownsRow.lt o3 b' h').1
            exact set6_block _ _ _ _ _ _ (by omega)
    · obtain rfl : k = n := by omega
      clear hlt
      go_wp2
      go_ret
      exact ⟨rfl, ⟨L', HO.out.ext fun j hj => ⟨if_pos hj, if_pos hj⟩, HL.out⟩, HB.out⟩
/-- a copy -/
theorem clone_any (s : StV w O base t sb v L n js) (f : Fin0 base O w) (hb : base ≤ w.heap.size) (t' : Nat) :
    Calls Try.prog 24 #[ptr sb] w fun e w' => ∃ sb' O', e = .returned (ptr sb') ∧ St w' O' base t' sb' n js ∧ ∀ t2, Step base O t2 w O' w' := by
  have JA := Lib.hid (journals_any s)
  have IV := Lib.hid s.inv
  have HF := Lib.hid f
  clear s f
  go_enter Try.func24, Try.ntmps24
  go_wp2_with fail
  refine (JA.out).mono ?_
  rintro e w1 ⟨rfl, ⟨L', h1, h2⟩, hb1⟩
  have H1 := Lib.hid h1
  have H2 := Lib.hid h2
  have HB1 := Lib.hid hb1
  clear h1 h2 hb1
  go_wp2
  go_ret
  have z1 := HB1.out.size
  have lb : w.heap.size < w1.heap.size := (H1.out.lt _ rfl).2
  have hh := heap_alloc_new w1 (.cells #[.slice (some ⟨w.heap.size, 0, none⟩) n n] 73)
  refine ⟨w1.heap.size, fun k => if k = w.heap.size ∨ k = w1.heap.size then t' else O k, rfl, ⟨.slice (some ⟨w.heap.size, 0, none⟩) n n, L', ⟨?_, ?_, ?_, ?_, ?_, ?_, IV.out⟩⟩, fun t2 => ⟨⟨HB1.out.os, HB1.out.tape, HB1.out.output, by simp; omega, fun k hk _ => ?_⟩, fun k hk => ?_, fun k hk => ?_, fun k hk => ?_⟩⟩
  · rw [cell_of_row _ w1.heap.size 0 _ _ (0, 0) hh]; rfl
  · exact frozen_of_row _ w1.heap.size 0 _ _ hh
  · exact if_pos (.inr rfl)
  · have o := H1.out.alloc (.cells #[.slice (some ⟨w.heap.size, 0, none⟩) n n] 73)
    refine ⟨o.1, ?_⟩
    rcases o.2 with h | ⟨g, cap, cur, e, hg, r⟩
    · exact .inl h
    · exact .inr ⟨g, cap, cur, e, by omega, r⟩
  · intro b hb
    have : w.heap.size = b := by simpa [Value.ownBlock] using hb
    subst this
    exact ⟨if_pos (.inl rfl), by omega⟩
  · intro j hj
    refine ⟨(H2.out j hj).alloc _ |>.someL, fun b hb => .inr ?_⟩
    have := World.ownsRow.lt (H2.out j hj) b hb
    show (if b = w.heap.size ∨ b = w1.heap.size then t' else O b) = 0
    rw [if_neg (by omega)]
    exact HF.out.2 b (by omega)
  · rw [Below.heap_alloc _ _ _ (by omega)]; exact HB1.out.block k hk
  · exact if_neg (by omega)
  · show (if k = w.heap.size ∨ k = w1.heap.size then t' else O k) = 0
    rw [if_neg (by omega)]; exact HF.out.1 k hk
  · have hk' : w1.heap.size + 1 ≤ k := by simpa using hk
    show (if k = w.heap.size ∨ k = w1.heap.size then t' else O k) = 0
    rw [if_neg (by omega)]; exact HF.out.2 k (by omega)
end
end Go.Proofs.Ytpbpflhoeidpnaa
