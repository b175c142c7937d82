/- StoreErrors: its walk. -/
import Derived.Test.YtpafhakgpmgmeaaLaw07a
import Derived.WalkKit
import Derived.WalkSpells
import Derived.WalkLawsBesides
import Derived.Lib.Hide
import Derived.Deep.LoopGhost
namespace Go.Proofs.Ytpafhakgpmgmeaa
open Go.RowKit

/-- postings that are refused, each with the reason, in a row of six cells each -/
def ErrsAt (w : World) (B n : Nat) : Prop := B < w.heap.size ∧ ∀ k, k < n → ∃ id p kd of A m c e ga gm,
  w.cell? ⟨B, k * 6, none⟩ = some (.string id) ∧ w.cell? ⟨B, k * 6 + 1, none⟩ = some (.int .i64 p) ∧ w.cell? ⟨B, k * 6 + 2, none⟩ = some (.int .i64 kd) ∧ w.cell? ⟨B, k * 6 + 3, none⟩ = some (.int .i64 of) ∧ w.cell? ⟨B, k * 6 + 4, none⟩ = some (.slice A m c) ∧ w.cell? ⟨B, k * 6 + 5, none⟩ = some (.int .i64 e) ∧
  SomeL (.slice A m c) w m ga gm ∧ m ≤ 2 ∧ PErr (fun _ => jz) 0 id p kd of m ga gm e ∧ e ≠ 0
theorem ErrsAt.below {w w1 : World} {B n : Nat} (h : ErrsAt w B n) (k : Below w.heap.size w w1) : ErrsAt w1 B n := by
  refine ⟨Nat.lt_of_lt_of_le h.1 k.size, fun j hj => ?_⟩
  obtain ⟨id, p, kd, of, A, m, c, e, ga, gm, c0, c1, c2, c3, c4, c5, hl, r⟩ := h.2 j hj
  exact ⟨id, p, kd, of, A, m, c, e, ga, gm, (k.cell (p := ⟨B, j * 6, none⟩) h.1).trans c0, (k.cell (p := ⟨B, j * 6 + 1, none⟩) h.1).trans c1, (k.cell (p := ⟨B, j * 6 + 2, none⟩) h.1).trans c2, (k.cell (p := ⟨B, j * 6 + 3, none⟩) h.1).trans c3, (k.cell (p := ⟨B, j * 6 + 4, none⟩) h.1).trans c4, (k.cell (p := ⟨B, j * 6 + 5, none⟩) h.1).trans c5, hl.below k, r⟩
def erC (X : Nat) (p : Int) : Array Value := #[.string ⟨#[]⟩, .int .i64 p, .int .i64 1, .int .i64 0, .slice (some ⟨X, 0, none⟩) 2 2, .int .i64 1,
  .string ⟨#[97]⟩, .int .i64 (-1), .int .i64 1, .int .i64 0, .slice (some ⟨X, 0, none⟩) 2 2, .int .i64 1,
  .string ⟨#[97]⟩, .int .i64 400, .int .i64 1, .int .i64 0, .slice (some ⟨X, 0, none⟩) 2 2, .int .i64 1,
  .string ⟨#[97]⟩, .int .i64 p, .int .i64 3, .int .i64 0, .slice (some ⟨X, 0, none⟩) 2 2, .int .i64 1,
  .string ⟨#[97]⟩, .int .i64 p, .int .i64 1, .int .i64 1, .slice (some ⟨X, 0, none⟩) 2 2, .int .i64 1,
  .string ⟨#[97]⟩, .int .i64 p, .int .i64 2, .int .i64 0, .slice (some ⟨X, 0, none⟩) 2 2, .int .i64 3,
  .string ⟨#[97]⟩, .int .i64 p, .int .i64 1, .int .i64 0, .slice (some ⟨X, 0, none⟩) 1 2, .int .i64 2]
theorem er_cell (w : World) (X : Nat) (p : Int) (t : TypeId) (j : Nat) : (w.alloc (.cells (erC X p) t)).cell? ⟨w.heap.size, j, none⟩ = (erC X p)[j]? := cell_of_row _ w.heap.size j _ t (0, 0) (heap_alloc_new w _)
theorem errs_at (w : World) (X : Nat) (p N : Int) (t : TypeId) (hp1 : 0 ≤ p) (hp2 : p ≤ 399) (hN1 : 1 ≤ N) (hl : SomeL (.slice (some ⟨X, 0, none⟩) 2 2) w 2 (two 1 2) (two N (-N))) : ErrsAt (w.alloc (.cells (erC X p) t)) w.heap.size 7 := by
  have hb := (Below.refl w.heap.size w).alloc (Nat.le_refl _) (.cells (erC X p) t)
  have hl' := hl.below hb
  have h1 : SomeL (.slice (some ⟨X, 0, none⟩) 1 2) (w.alloc (.cells (erC X p) t)) 1 (two 1 2) (two N (-N)) := by
    obtain ⟨A, c, e, _, h2, _, h4⟩ := hl'
    injection e with e1 _ e3
    subst e1 e3
    refine ⟨_, 2, rfl, by omega, h2, (fun h => by cases h), ?_⟩
    rcases h4 with h4 | ⟨b, off, ea, hb, hc⟩
    · omega
    · exact .inr ⟨b, off, ea, hb, fun j hj => hc j (by omega)⟩
  have ne : (⟨#[97]⟩ : ByteArray) ≠ ⟨#[]⟩ := by decide
  refine ⟨by simp, fun k hk => ?_⟩
  rcases (show k = 0 ∨ k = 1 ∨ k = 2 ∨ k = 3 ∨ k = 4 ∨ k = 5 ∨ k = 6 by omega) with rfl | rfl | rfl | rfl | rfl | rfl | rfl
  · exact ⟨_, _, _, _, _, 2, _, _, two 1 2, two N (-N), er_cell _ _ _ _ _, er_cell _ _ _ _ _, er_cell _ _ _ _ _, er_cell _ _ _ _ _, er_cell _ _ _ _ _, er_cell _ _ _ _ _, hl', by omega, .arg fun h => h.1 rfl, by omega⟩
  · exact ⟨_, _, _, _, _, 2, _, _, two 1 2, two N (-N), er_cell _ _ _ _ _, er_cell _ _ _ _ _, er_cell _ _ _ _ _, er_cell _ _ _ _ _, er_cell _ _ _ _ _, er_cell _ _ _ _ _, hl', by omega, .arg fun h => by have := h.2.1; omega, by omega⟩
  · exact ⟨_, _, _, _, _, 2, _, _, two 1 2, two N (-N), er_cell _ _ _ _ _, er_cell _ _ _ _ _, er_cell _ _ _ _ _, er_cell _ _ _ _ _, er_cell _ _ _ _ _, er_cell _ _ _ _ _, hl', by omega, .arg fun h => by have := h.2.2.1; omega, by omega⟩
  · exact ⟨_, _, _, _, _, 2, _, _, two 1 2, two N (-N), er_cell _ _ _ _ _, er_cell _ _ _ _ _, er_cell _ _ _ _ _, er_cell _ _ _ _ _, er_cell _ _ _ _ _, er_cell _ _ _ _ _, hl', by omega, .arg fun h => by have := h.2.2.2; omega, by omega⟩
  · exact ⟨_, _, _, _, _, 2, _, _, two 1 2, two N (-N), er_cell _ _ _ _ _, er_cell _ _ _ _ _, er_cell _ _ _ _ _, er_cell _ _ _ _ _, er_cell _ _ _ _ _, er_cell _ _ _ _ _, hl', by omega, .arg fun h => by have := h.2.2.2; omega, by omega⟩
  · exact ⟨_, _, _, _, _, 2, _, _, two 1 2, two N (-N), er_cell _ _ _ _ _, er_cell _ _ _ _ _, er_cell _ _ _ _ _, er_cell _ _ _ _ _, er_cell _ _ _ _ _, er_cell _ _ _ _ _, hl', by omega, .none ⟨ne, hp1, hp2, .inl rfl⟩ rfl (fun ⟨k, h1, h2⟩ => by have := h2.1; omega), by omega⟩
  · exact ⟨_, _, _, _, _, 1, _, _, two 1 2, two N (-N), er_cell _ _ _ _ _, er_cell _ _ _ _ _, er_cell _ _ _ _ _, er_cell _ _ _ _ _, er_cell _ _ _ _ _, er_cell _ _ _ _ _, h1, by omega, .form1 ⟨ne, hp1, hp2, .inr ⟨rfl, rfl⟩⟩ rfl (fun g => by have := g.2.2.2; simp [tot, two] at this; omega), by omega⟩
/-- the first journal -/
abbrev jx (p N : Int) : Jn := ⟨((0 : Nat) : Int) + 1, ⟨#[97]⟩, p, 1, 0, 2, two 1 2, two N (-N)⟩
theorem bal_jx (p N : Int) (ent : ByteArray) (a : Int) (hp : p ≤ 399) : bal (pushJ (fun _ => jz) 0 (jx p N)) (0 + 1) ent a 399 = if ent = ⟨#[97]⟩ then (if a = 1 then N else 0) + (if a = 2 then -N else 0) else 0 := by
  rw [bal_push, bal_0]; unfold jb
  by_cases h : ent = ⟨#[97]⟩
  · subst h
    rw [if_pos ⟨rfl, hp⟩, if_pos rfl]
    show 0 + sm a (two 1 2) (two N (-N)) 2 = _
    rw [sm_two]
    by_cases h1 : a = 1
    · subst h1; simp
    · by_cases h2 : a = 2
      · subst h2; simp
      · rw [if_neg h1, if_neg h2, if_neg (fun e => h1 e.symm), if_neg (fun e => h2 e.symm)]; rfl
  · rw [if_neg (fun q => h q.1.symm), if_neg h]; rfl
theorem two_cases {P : Nat → Prop} (h0 : P 0) (h1 : P 1) : ∀ i, i < 2 → P i := fun i hi => by
  rcases (show i = 0 ∨ i = 1 by omega) with rfl | rfl
  · exact h0
  · exact h1
set_option maxHeartbeats 4000000 in
set_option maxRecDepth 100000 in
theorem storeErrors_walk (a0 a1 : Int) (w : World) :
    Calls Try.prog 3 #[.int .i64 a0, .int .i64 a1] w fun e w' => e = .returned (.bool true) ∧ Below w.heap.size w w' := by
  go_enter Try.func3, Try.ntmps3
  go_wp2_with fail
  refine (new_any _).mono ?_
  rintro e w1 ⟨rfl, rfl⟩
  obtain ⟨O1, nw, _⟩ := now_new w w (fun _ => 0) (Fin0.zero _ _) (Below.refl _ _) 1 60 (fun _ => jz)
  have N1 := Lib.hid nw
  obtain ⟨w2, hw2⟩ : ∃ w2, w.alloc (.cells #[.slice none 0 0] 60) = w2 := ⟨_, rfl⟩
  rw [hw2] at N1
  rw [hw2]
  clear nw hw2
  go_wp2_with fail
  refine (within_some _ _ _ (by omega) (by omega)).mono ?_
  rintro e w' ⟨x, x1, x2, rfl, rfl⟩
  go_wp2_with fail
  refine (within_some _ _ _ (by omega) (by omega)).mono ?_
  rintro e w' ⟨p, p1, p2, rfl, rfl⟩
  obtain ⟨N, hN⟩ : ∃ N, 1 + x = N := ⟨_, rfl⟩
  have n1 : 1 ≤ N := by omega
  have n2 : N ≤ 100000000000 := by omega
  have LL1 := lit_some w2 #[.int .i64 1, .int .i64 (1 + x), .int .i64 2, .int .i64 (-(1 + x))] 26 w2.heap.size 2 (two 1 2) (two (1 + x) (-(1 + x))) rfl rfl (by unfold maxLen; omega)
  have NL := N1.out.below ((Below.refl _ _).alloc (Nat.le_refl _) (.cells #[.int .i64 1, .int .i64 (1 + x), .int .i64 2, .int .i64 (-(1 + x))] 26))
  obtain ⟨w3, hw3⟩ : ∃ w3, w2.alloc (.cells #[.int .i64 1, .int .i64 (1 + x), .int .i64 2, .int .i64 (-(1 + x))] 26) = w3 := ⟨_, rfl⟩
  have hz3 : w3.heap.size = w2.heap.size + 1 := by rw [← hw3]; simp
  rw [hw3, hN] at LL1
  rw [hw3] at NL
  have ER := errs_at w3 w2.heap.size p N 29 p1 (by omega) n1 LL1
  have N4 := Lib.hid (NL.below ((Below.refl _ _).alloc (Nat.le_refl _) (.cells (erC w2.heap.size p) 29)))
  have L4 := Lib.hid (LL1.below ((Below.refl _ _).alloc (Nat.le_refl _) (.cells (erC w2.heap.size p) 29)))
  obtain ⟨w4, hw4⟩ : ∃ w4, w3.alloc (.cells (erC w2.heap.size p) 29) = w4 := ⟨_, rfl⟩
  rw [hw4] at ER N4 L4
  have HE := Lib.hid ER
  have HN := Lib.hid hN
  have hww : (w2.alloc (.cells #[.int .i64 1, .int .i64 (1 + x), .int .i64 2, .int .i64 (-(1 + x))] 26)).alloc (.cells (erC w2.heap.size p) 29) = w4 := by rw [hw3]; exact hw4
  have HWW := Lib.hid hww
  have HZ3 := Lib.hid hz3
  clear LL1 NL ER hw3 hw4 hww hN hz3
  go_wp2_with fail
  have hww := HWW.out
  unfold erC at hww
  rw [hww]
  clear hww HWW
  rw [HZ3.out] at HE
  clear HZ3
  go_loopg [55] 7 (fun gh i wr => ∃ k : Nat, k ≤ 7 ∧ gh = 7 - k ∧ i = .int .i64 k ∧ Below w4.heap.size w4 wr)
  case atStart => exact ⟨0, Nat.zero_le _, rfl, rfl, Below.refl _ _⟩
  case round =>
    obtain ⟨k, hk, hgk, rfl, hbw⟩ := hrel
    have HGK := Lib.hid hgk
    have HB := Lib.hid hbw
    have NR := Lib.hid (N4.out.below hbw)
    clear hgk hbw
    by_cases hlt : k < 7
    · obtain ⟨hT, id, q, kd, of, A, m, c, e, ga, gm, c0, c1, c2, c3, c4, c5, hl, hm, hp, he⟩ := And.imp_right (fun h => h k hlt) (HE.out.below HB.out)
      have HL := Lib.hid hl
      have HP := Lib.hid hp
      have HNE := Lib.hid he
      clear hl hp he
      go_wp2_with fail
      have hb1 := (Below.refl wr.heap.size wr).alloc (Nat.le_refl _) (.cells #[.string id, .int .i64 q, .int .i64 kd, .int .i64 of, .slice A m c, .int .i64 e] 29)
      refine (lpost_no (NR.out.below hb1) id q kd of m ga gm (.slice A m c) e (HL.out.below hb1) (by omega) HP.out HNE.out).mono ?_
      rintro r w5 ⟨rfl, hb5⟩
      obtain ⟨hc, _, hz, hb⟩ := one_cells hb5
      have r5 : w5.cell? ⟨wr.heap.size, 5, none⟩ = some (.int .i64 e) := hc 5
      have HB5 := Lib.hid hb
      have N5 := Lib.hid (NR.out.below hb)
      clear hc hb hb5 hb1
      go_wp2_with fail
      refine (ljournals N5.out).mono ?_
      rintro r w6 ⟨rfl, _, hb6⟩
      have HB6 := Lib.hid (HB5.out.trans (hb6.mono HB5.out.size))
      clear hb6
      go_wp2
      go_roundg (7 - (k + 1))
      case measure => have := HGK.out; omega
      case rel => exact ⟨k + 1, by omega, rfl, by go_num, HB.out.trans (HB6.out.mono HB.out.size)⟩
    · obtain rfl : k = 7 := by omega
      clear hlt
      have LR := Lib.hid (L4.out.below HB.out)
      have GN := Lib.hid (good_two (a := 1) (b := 2) (m := N) (n := -N) (by omega) (by omega) (by omega) (by omega) ⟨by omega, by omega⟩ (by omega))
      have ne : (⟨#[97]⟩ : ByteArray) ≠ ⟨#[]⟩ := by decide
      have nb : (⟨#[98]⟩ : ByteArray) ≠ ⟨#[]⟩ := by decide
      have nab : (⟨#[98]⟩ : ByteArray) ≠ ⟨#[97]⟩ := by decide
      have GM := Lib.hid (good_two (a := 1) (b := 2) (m := 100000000000) (n := -100000000000) (by omega) (by omega) (by omega) (by omega) ⟨by omega, by omega⟩ (by omega))
      have P1 := Lib.hid (perr_prov (js := fun _ => jz) (n := 0) ne p1 (show p ≤ 399 by omega) GN.out (by omega) (two_cases (by rw [bal_0]; show Mon (0 + N); unfold Mon; omega) (by rw [bal_0]; show Mon (0 + -N); unfold Mon; omega)))
      have P2 : Hid (PErr (pushJ (fun _ => jz) 0 (jx p N)) (0 + 1) ⟨#[97]⟩ p 2 1 2 (two 1 2) (two N (-N)) 2) := Lib.hid (.form2 0 ⟨ne, p1, by omega, .inl rfl⟩ rfl (by decide) ⟨by omega, rfl, rfl, (by show (1 : Int) ≠ 2; omega)⟩ (fun ⟨j, hj, e⟩ => by
        obtain rfl : j = 0 := by omega
        have e2 : (0 : Int) = 1 := e
        omega) (fun h => by have := (h.2.2 0 (by omega)).2; have e2 : N = -N := this; omega))
      have P3 : Hid (PErr (pushJ (fun _ => jz) 0 (jx p N)) (0 + 1) ⟨#[97]⟩ 0 1 0 2 (two 1 2) (two 100000000000 (-100000000000)) 6) := Lib.hid (.over1 ⟨ne, by omega, by omega, .inr ⟨rfl, rfl⟩⟩ rfl GM.out (by omega) ⟨0, by omega, by rw [bal_jx _ _ _ _ (by omega), if_pos rfl]; show ¬ Mon ((if (1 : Int) = 1 then N else 0) + (if (1 : Int) = 2 then -N else 0) + 100000000000); rw [if_pos rfl, if_neg (by omega)]; unfold Mon; omega⟩)
      have P4 : Hid (PErr (pushJ (fun _ => jz) 0 (jx p N)) (0 + 1) ⟨#[98]⟩ 0 1 0 2 (two 1 2) (two 100000000000 (-100000000000)) 0) := Lib.hid (perr_prov nb (by omega) (by omega) GM.out (by omega) (two_cases (by rw [bal_jx _ _ _ _ (by omega), if_neg nab]; unfold Mon two; decide) (by rw [bal_jx _ _ _ _ (by omega), if_neg nab]; unfold Mon two; decide)))
      clear ne nb nab
      go_wp2_with fail
      refine (lpost_ok NR.out (by decide) ⟨#[97]⟩ p 1 0 2 (two 1 2) (two N (-N)) _ LR.out P1.out).mono ?_
      rintro r w5 ⟨rfl, O5, n5, s5⟩
      have N5 := Lib.hid n5
      have L5 := Lib.hid ((show SomeF _ _ _ _ _ _ from ⟨LR.out, fun b hb => .inr (by
        have hb' : w2.heap.size = b := by simpa [Value.ownBlock] using hb
        exact N1.out.fin.2 b (by omega))⟩).step s5 (by decide))
      clear n5 s5
      go_wp2_with fail
      refine (lpost_no N5.out ⟨#[97]⟩ p 2 1 2 (two 1 2) (two N (-N)) _ 2 L5.out.1 (by omega) P2.out (by omega)).mono ?_
      rintro r w6 ⟨rfl, hb6⟩
      have N6 := Lib.hid (N5.out.below hb6)
      clear hb6
      go_wp2_with fail
      have M7 := lit_some w6 #[.int .i64 1, .int .i64 100000000000, .int .i64 2, .int .i64 (-100000000000)] 26 w6.heap.size 2 (two 1 2) (two 100000000000 (-100000000000)) rfl rfl (by unfold maxLen; omega)
      have hb7 := (Below.refl w6.heap.size w6).alloc (Nat.le_refl _) (.cells #[.int .i64 1, .int .i64 100000000000, .int .i64 2, .int .i64 (-100000000000)] 26)
      refine (lpost_no (N6.out.below hb7) ⟨#[97]⟩ 0 1 0 2 (two 1 2) (two 100000000000 (-100000000000)) _ 6 M7 (by omega) P3.out (by omega)).mono ?_
      rintro r w7 ⟨rfl, hb8⟩
      have N7 := Lib.hid ((N6.out.below hb7).below hb8)
      clear M7 hb7 hb8
      go_wp2_with fail
      have M7 := lit_some w7 #[.int .i64 1, .int .i64 100000000000, .int .i64 2, .int .i64 (-100000000000)] 26 w7.heap.size 2 (two 1 2) (two 100000000000 (-100000000000)) rfl rfl (by unfold maxLen; omega)
      have hb7 := (Below.refl w7.heap.size w7).alloc (Nat.le_refl _) (.cells #[.int .i64 1, .int .i64 100000000000, .int .i64 2, .int .i64 (-100000000000)] 26)
      refine (lpost_ok (N7.out.below hb7) (by decide) ⟨#[98]⟩ 0 1 0 2 (two 1 2) (two 100000000000 (-100000000000)) _ M7 P4.out).mono ?_
      rintro r w8 ⟨rfl, O8, n8, _⟩
      have N8 := Lib.hid n8
      clear n8 M7 hb7
      go_wp2_with fail
      refine (ljournals N8.out).mono ?_
      rintro r w9 ⟨rfl, _, hb9⟩
      have H9 := Lib.hid (N8.out.low.trans (hb9.mono N8.out.low.size))
      clear hb9
      go_wp2_with fail
      refine (wakes7_any _).mono ?_
      rintro r w10 ⟨rfl, hb10⟩
      have H10 := Lib.hid (H9.out.trans (hb10.mono H9.out.size))
      clear hb10
      go_wp2
      go_ret
      exact ⟨rfl, H10.out⟩
end Go.Proofs.Ytpafhakgpmgmeaa
