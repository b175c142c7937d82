/- The document's own register of buckets: set: a contract. -/
import Derived.Test.YtolmdoigcaaieaaRBucket
import Derived.WalkKit
import Derived.WalkSpells
import Derived.WalkLawsBesides
import Derived.Lib.Hide
import Derived.IntWalk
import Derived.Deep.LoopGhost
namespace Go.Proofs.Ytolmdoigcaaieaa
open Go.RowKit

section
variable {w w1 : World} {O O1 : Nat → Nat} {base t t' sb n : Nat} {v : Value} {g : Nat → Bk} {S : Int → Int → Int}
/-- rows of the call's own become the register's -/
theorem BV.takes (s : BV w O base t sb v n g) (fn : Fin0 base O w) (hb : base ≤ w.heap.size) (b : Below w.heap.size w w1) {v' : Value} {m : Nat} {h : Nat → Bk} (o : OwnR be 3 w1 26 w.heap.size v' m h) :
    ∃ O', BV (w1.setCell ⟨sb, 0, none⟩ v') O' base t sb v' m h ∧ Step base O t w O' (w1.setCell ⟨sb, 0, none⟩ v') := by
  obtain ⟨O1, m1, st1⟩ := fresh_marked fn hb b o t
  have hd1 : Head w1 O1 t sb [v] := (s.hd.below b).block (O1 := O1) rfl (Nat.le_refl _) ((st1 t).ext sb s.hd.lt)
  have lt := s.hd.lt
  have k2 := Step.set (t := t) (st1 t).fin 0 v' hd1.tag
  refine ⟨O1, ⟨hd1.set 0 v' (by simp), ⟨?_, fun x hx => ⟨(m1 x hx).1, ?_⟩⟩⟩, (st1 t).trans k2⟩
  · refine own_blocks (own_mono o hb) fun x hx => Below.heap_setCell _ _ _ _ ?_
    have := (World.ownsRow.lt o x hx).1
    show x ≠ sb
    omega
  · have := (World.ownsRow.lt o x hx).1
    omega
set_option maxHeartbeats 8000000 in
set_option maxRecDepth 100000 in
theorem rbset (s : BV w O base t sb v n g) (b : BIs S n g) (fn : Fin0 base O w) (hbase : base ≤ w.heap.size) (hn : n ≤ 1000) (c y x : Int) (hok : BOk c y) :
    Calls Try.prog 39 #[ptr sb, .int .i64 c, .int .i64 y, .int .i64 x] w fun e w' => ∃ u, e = .returned u ∧ ∃ v' m h O', BV w' O' base t sb v' m h ∧ BIs (upS S c y x) m h ∧ m ≤ n + 1 ∧ Step base O t w O' w' := by
  obtain ⟨i0, hi, hz0, hz1, hz2⟩ := info_parts bk_info
  have c0 := s.hd.c0
  have lt0 := s.hd.lt
  have g0 := s.hd.frz 0
  obtain ⟨A, cc, rfl, hc, hm, _, ha⟩ := s.at
  have HA := Lib.hid ha
  have HB := Lib.hid b
  have HS := Lib.hid s
  have HF := Lib.hid fn
  have OK := Lib.hid hok
  clear s ha b fn hok
  go_enter Try.func39, Try.ntmps39
  go_wp2
  go_loopg [8, 9, 19] n (fun gh s8 s9 i wr => ∃ (k m : Nat) (h : Nat → Bk) (ins : Bool), k ≤ n ∧ gh = n - k ∧ i = .int .i64 k ∧ s9 = .bool ((x == 0) || ins) ∧ SetInv g n k c y x ins m h ∧ OwnR be 3 wr 26 w.heap.size s8 m h ∧ Below w.heap.size w wr)
  case atStart => exact ⟨0, 0, g, false, Nat.zero_le _, rfl, rfl, by simp, SetInv.zero _ _ _ _ _ _, OwnR.nil _ _ _ _ _ _, Below.refl _ _⟩
  case round =>
    obtain ⟨k, m, h, ins, hk, hgk, rfl, rfl, hsi, ho, hbw⟩ := hrel
    have HGK := Lib.hid hgk
    have HW := Lib.hid hbw
    have SI := Lib.hid hsi
    have HO := Lib.hid ho
    have hmk := hsi.size.1
    have hz := hbw.size
    clear hgk hbw hsi ho
    by_cases hlt : k < n
    · obtain ⟨b, off, rfl, hb, c0, c1, c2⟩ := (HA.out.below HW.out).three hlt
      by_cases hcc : (g k).c = c ∧ (g k).y = y
      · have HN := Lib.hid hcc
        have p1 : ((g k).c == c) = true := by simpa using hcc.1
        have p2 : ((g k).y == y) = true := by simpa using hcc.2
        clear hcc
        go_wp2
        go_roundg (n - (k + 1))
        case measure => have := HGK.out; omega
        case rel => exact ⟨k + 1, m, h, ins, by omega, rfl, by go_num, rfl, SI.out.skip HN.out, HO.out.alloc _, HW.out.alloc hz _⟩
      · have HN := Lib.hid hcc
        have ways : (((g k).c == c) = false) ∨ (((g k).c == c) = true ∧ ((g k).y == y) = false) := by
          by_cases q1 : (g k).c = c
          · exact .inr ⟨by simpa using q1, by simpa using fun q2 => hcc ⟨q1, q2⟩⟩
          · exact .inl (by simpa using q1)
        by_cases hd : ((x == 0) || ins) = true
        · have HD : Hid (x = 0 ∨ ins = true ∨ ¬ Bl c y (g k).c (g k).y) := Lib.hid (by
            rw [Bool.or_eq_true, beq_iff_eq] at hd
            rcases hd with h | h
            · exact .inl h
            · exact .inr (.inl h))
          obtain ⟨dn, hdn⟩ : ∃ dn, ((x == 0) || ins) = dn := ⟨_, rfl⟩
          rw [hdn] at hd
          subst hd
          rw [hdn]
          have HDN := Lib.hid hdn
          clear hcc hdn
          rcases ways with p1 | ⟨p1, p2⟩
          all_goals
            go_wp2_with (at_builtin; (refine wpList_push_r rfl (.tmp 60) (.tmp 62) rfl bk_type hi hz0 hz1 hz2 (by decide) rfl (by decide) be_len be_one w w.heap.size m (wr.heap.size + 1) _ h (g k) rfl rfl (rec_lit (wr.alloc _) (be (g k)) 26 _ (by simp)) ((HO.out.alloc _).alloc _) (by omega) ((HW.out.alloc hz _).alloc (by simp; omega) _) (by simp; omega) _ rfl ?_; intro b2 c3 w6 ho2 hb2 hg2 hat2; have HO2 := Lib.hid ho2; have HW2 := Lib.hid hb2; clear ho2 hb2 hg2 hat2))
            go_roundg (n - (k + 1))
            case measure => have := HGK.out; omega
            case rel => exact ⟨k + 1, m + 1, _, ins, by omega, rfl, by go_num, by rw [HDN.out], SI.out.keep HB.out.1 hlt HN.out HD.out, HO2.out, HW2.out⟩
        · obtain ⟨dn, hdn⟩ : ∃ dn, ((x == 0) || ins) = dn := ⟨_, rfl⟩
          have hf : dn = false := by rw [← hdn]; simpa using hd
          have hx0 : x ≠ 0 ∧ ins = false := by
            rw [hf, Bool.or_eq_false_iff] at hdn
            exact ⟨by simpa using hdn.1, hdn.2⟩
          obtain ⟨hx0, rfl⟩ := hx0
          subst hf
          rw [hdn]
          have HDN := Lib.hid hdn
          have HX := Lib.hid hx0
          have HT : Hid (((x == 0) || true) = true) := Lib.hid (by simp)
          clear hcc hdn hd hx0
          rcases ways with p1 | ⟨p1, p2⟩
          · by_cases hq : c < (g k).c
            · have HL : Hid (Bl c y (g k).c (g k).y) := Lib.hid (.inl hq)
              go_wp2_with (first | (at_builtin; (refine wpList_push_r rfl (.tmp 53) (.tmp 58) rfl bk_type hi hz0 hz1 hz2 (by decide) rfl (by decide) be_len be_one w w.heap.size m (wr.heap.size + 1) _ h ⟨c, y, x⟩ rfl rfl (rec_lit (wr.alloc _) (be ⟨c, y, x⟩) 26 _ (by simp)) ((HO.out.alloc _).alloc _) (by omega) ((HW.out.alloc hz _).alloc (by simp; omega) _) (by simp; omega) _ rfl ?_; intro b2 c3 w6 ho2 hb2 hg2 hat2; have hcell : ∀ j u, (be (g k))[j]? = some u → w6.cell? ⟨wr.heap.size, j, none⟩ = some u := (fun j u hu => (World.cell?_of_block (a := ⟨wr.heap.size, j, none⟩) (hg2.block wr.heap.size (by simp; omega) (fun e => by have := (World.ownsRow.lt HO.out _ e.symm).2; omega))).trans (cell_keep (rec_lit wr (be (g k)) 26 wr.heap.size rfl j u hu) ((Below.refl _ _).alloc (Nat.le_refl _) _))); have k0 := hcell 0 _ rfl; have k1 := hcell 1 _ rfl; have k2 := hcell 2 _ rfl; have HO2 := Lib.hid ho2; have HW2 := Lib.hid hb2; have hz6 := hb2.size; clear ho2 hb2 hg2 hat2 hcell)) | (at_builtin; (refine wpList_push_r rfl (.tmp 60) (.tmp 62) rfl bk_type hi hz0 hz1 hz2 (by decide) rfl (by decide) be_len be_one w w.heap.size (m + 1) w6.heap.size _ (pushB h m ⟨c, y, x⟩) (g k) rfl rfl (rec_lit w6 (be (g k)) 26 _ rfl) (HO2.out.alloc _) (by omega) (HW2.out.alloc hz6 _) (by simp; omega) _ rfl ?_; intro b4 c4 w8 ho4 hb4 hg4 hat4; have HO4 := Lib.hid ho4; have HW4 := Lib.hid hb4; clear ho4 hb4 hg4 hat4)))
              go_roundg (n - (k + 1))
              case measure => have := HGK.out; omega
              case rel => exact ⟨k + 1, m + 1 + 1, _, true, by omega, rfl, by go_num, by rw [HT.out], (SI.out.put OK.out HX.out (behind HB.out.1 HL.out)).keep HB.out.1 hlt HN.out (.inr (.inl rfl)), HO4.out, HW4.out⟩
            · have HL : Hid (¬ Bl c y (g k).c (g k).y) := Lib.hid (by
                have p1' : ¬ (g k).c = c := by simpa using p1
                unfold Bl; omega)
              have hq' : decide (c < (g k).c) = false := by simpa using hq
              clear hq
              go_wp2_with (at_builtin; (refine wpList_push_r rfl (.tmp 60) (.tmp 62) rfl bk_type hi hz0 hz1 hz2 (by decide) rfl (by decide) be_len be_one w w.heap.size m (wr.heap.size + 1) _ h (g k) rfl rfl (rec_lit (wr.alloc _) (be (g k)) 26 _ (by simp)) ((HO.out.alloc _).alloc _) (by omega) ((HW.out.alloc hz _).alloc (by simp; omega) _) (by simp; omega) _ rfl ?_; intro b2 c3 w6 ho2 hb2 hg2 hat2; have HO2 := Lib.hid ho2; have HW2 := Lib.hid hb2; clear ho2 hb2 hg2 hat2))
              go_roundg (n - (k + 1))
              case measure => have := HGK.out; omega
              case rel => exact ⟨k + 1, m + 1, _, false, by omega, rfl, by go_num, by rw [HDN.out], SI.out.keep HB.out.1 hlt HN.out (.inr (.inr HL.out)), HO2.out, HW2.out⟩
          · have e1 : (g k).c = c := by simpa using p1
            have hq' : decide (c < (g k).c) = false := by simp; omega
            by_cases hq : y < (g k).y
            · have HL : Hid (Bl c y (g k).c (g k).y) := Lib.hid (.inr ⟨e1.symm, hq⟩)
              clear e1
              go_wp2_with (first | (at_builtin; (refine wpList_push_r rfl (.tmp 53) (.tmp 58) rfl bk_type hi hz0 hz1 hz2 (by decide) rfl (by decide) be_len be_one w w.heap.size m (wr.heap.size + 1) _ h ⟨c, y, x⟩ rfl rfl (rec_lit (wr.alloc _) (be ⟨c, y, x⟩) 26 _ (by simp)) ((HO.out.alloc _).alloc _) (by omega) ((HW.out.alloc hz _).alloc (by simp; omega) _) (by simp; omega) _ rfl ?_; intro b2 c3 w6 ho2 hb2 hg2 hat2; have hcell : ∀ j u, (be (g k))[j]? = some u → w6.cell? ⟨wr.heap.size, j, none⟩ = some u := (fun j u hu => (World.cell?_of_block (a := ⟨wr.heap.size, j, none⟩) (hg2.block wr.heap.size (by simp; omega) (fun e => by have := (World.ownsRow.lt HO.out _ e.symm).2; omega))).trans (cell_keep (rec_lit wr (be (g k)) 26 wr.heap.size rfl j u hu) ((Below.refl _ _).alloc (Nat.le_refl _) _))); have k0 := hcell 0 _ rfl; have k1 := hcell 1 _ rfl; have k2 := hcell 2 _ rfl; have HO2 := Lib.hid ho2; have HW2 := Lib.hid hb2; have hz6 := hb2.size; clear ho2 hb2 hg2 hat2 hcell)) | (at_builtin; (refine wpList_push_r rfl (.tmp 60) (.tmp 62) rfl bk_type hi hz0 hz1 hz2 (by decide) rfl (by decide) be_len be_one w w.heap.size (m + 1) w6.heap.size _ (pushB h m ⟨c, y, x⟩) (g k) rfl rfl (rec_lit w6 (be (g k)) 26 _ rfl) (HO2.out.alloc _) (by omega) (HW2.out.alloc hz6 _) (by simp; omega) _ rfl ?_; intro b4 c4 w8 ho4 hb4 hg4 hat4; have HO4 := Lib.hid ho4; have HW4 := Lib.hid hb4; clear ho4 hb4 hg4 hat4)))
              go_roundg (n - (k + 1))
              case measure => have := HGK.out; omega
              case rel => exact ⟨k + 1, m + 1 + 1, _, true, by omega, rfl, by go_num, by rw [HT.out], (SI.out.put OK.out HX.out (behind HB.out.1 HL.out)).keep HB.out.1 hlt HN.out (.inr (.inl rfl)), HO4.out, HW4.out⟩
            · have HL : Hid (¬ Bl c y (g k).c (g k).y) := Lib.hid (by unfold Bl; omega)
              have hq2 : decide (y < (g k).y) = false := by simpa using hq
              clear e1 hq
              go_wp2_with (at_builtin; (refine wpList_push_r rfl (.tmp 60) (.tmp 62) rfl bk_type hi hz0 hz1 hz2 (by decide) rfl (by decide) be_len be_one w w.heap.size m (wr.heap.size + 1) _ h (g k) rfl rfl (rec_lit (wr.alloc _) (be (g k)) 26 _ (by simp)) ((HO.out.alloc _).alloc _) (by omega) ((HW.out.alloc hz _).alloc (by simp; omega) _) (by simp; omega) _ rfl ?_; intro b2 c3 w6 ho2 hb2 hg2 hat2; have HO2 := Lib.hid ho2; have HW2 := Lib.hid hb2; clear ho2 hb2 hg2 hat2))
              go_roundg (n - (k + 1))
              case measure => have := HGK.out; omega
              case rel => exact ⟨k + 1, m + 1, _, false, by omega, rfl, by go_num, by rw [HDN.out], SI.out.keep HB.out.1 hlt HN.out (.inr (.inr HL.out)), HO2.out, HW2.out⟩
    · obtain rfl : k = n := by omega
      clear hlt
      have d0 := cell_keep c0 HW.out
      have f0 := (HW.out.frozen (p := ⟨sb, 0, none⟩) lt0).trans g0
      obtain ⟨dn, hdn⟩ : ∃ dn, ((x == 0) || ins) = dn := ⟨_, rfl⟩
      rw [hdn]
      have HDN := Lib.hid hdn
      clear hdn
      cases dn
      · have hx0 : x ≠ 0 ∧ ins = false := by
          have := HDN.out
          rw [Bool.or_eq_false_iff] at this
          exact ⟨by simpa using this.1, this.2⟩
        obtain ⟨hx0, rfl⟩ := hx0
        have HX := Lib.hid hx0
        clear hx0
        go_wp2_with (at_builtin; (refine wpList_push_r rfl (.tmp 67) (.tmp 72) rfl bk_type hi hz0 hz1 hz2 (by decide) rfl (by decide) be_len be_one w w.heap.size m wr.heap.size _ h ⟨c, y, x⟩ rfl rfl (rec_lit wr (be ⟨c, y, x⟩) 26 _ rfl) (HO.out.alloc _) (by omega) (HW.out.alloc hz _) (by simp; omega) _ rfl ?_; intro b2 c3 w6 ho2 hb2 hg2 hat2; have e0 := cell_keep c0 hb2; have e1 := (hb2.frozen (p := ⟨sb, 0, none⟩) lt0).trans g0; have HO2 := Lib.hid ho2; have HW2 := Lib.hid hb2; clear ho2 hb2 hg2 hat2))
        go_end0
        obtain ⟨O', q1, q2⟩ := BV.takes HS.out HF.out hbase HW2.out HO2.out
        exact ⟨_, rfl, _, _, _, O', q1, ((SI.out.put OK.out HX.out fun j hj hn => by omega).done HB.out (.inr rfl)), by have := SI.out.size.2 rfl; omega, q2⟩
      · have HD : Hid (x = 0 ∨ ins = true) := Lib.hid (by
          have := HDN.out
          rw [Bool.or_eq_true, beq_iff_eq] at this
          exact this)
        obtain ⟨A8, c8, rfl, _, _, _⟩ := HO.out.form
        go_wp2
        go_end0
        obtain ⟨O', q1, q2⟩ := BV.takes HS.out HF.out hbase HW.out HO.out
        exact ⟨_, rfl, _, _, _, O', q1, SI.out.done HB.out HD.out, by omega, q2⟩
end
end Go.Proofs.Ytolmdoigcaaieaa
