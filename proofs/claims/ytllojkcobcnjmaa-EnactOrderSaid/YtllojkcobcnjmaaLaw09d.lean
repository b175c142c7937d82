/- EnactOrder: its walk. -/
import Derived.Test.YtllojkcobcnjmaaLaw09c
import Derived.Test.YtllojkcobcnjmaaOrd2
import Derived.WalkKit
import Derived.WalkSpells
import Derived.WalkLawsBesides
import Derived.Lib.Hide
import Derived.IntWalk
import Derived.Deep.LoopGhost
import Derived.Deep.QuietTactic
import Derived.BigQuiet
import Derived.Deep.RegionHeld3
import Derived.Deep.RegionLaw
import Derived.Deep.DeepCutAuto
import Derived.Deep.CutBlock
namespace Go.Proofs.Ytllojkcobcnjmaa
open Go.RowKit

section
variable {w0 w w1 : World} {O O1 : Nat → Nat} {t t' sb n : Nat} {R S : Nat → Rt} {E : TypeId}
theorem NowT.zero (h : NowT E w0 w O t sb 0 R) (S : Nat → Rt) : NowT E w0 w O t sb 0 S := by
  obtain ⟨v, s⟩ := h.st
  exact ⟨⟨v, s.hd, s.row, TInv.nil S⟩, h.fin, h.low⟩
/-- what bears another mark stays as it is -/
theorem cell_step {base : Nat} {b o : Nat} {u : Value} (s : Step base O t w O1 w1) (hb : b < w.heap.size) (h : O b ≠ t) (c : w.cell? ⟨b, o, none⟩ = some u) : w1.cell? ⟨b, o, none⟩ = some u :=
  (World.cell?_of_block (a := ⟨b, o, none⟩) (s.kept.block b hb h)).trans c
/-- the first n rows, from the last one on -/
def bwd (R : Nat → Rt) (n : Nat) : Nat → Rt := fun j => R (n - 1 - j)
theorem bwd_push (R : Nat → Rt) (n k : Nat) : pushT (bwd R n) k (R (n - 1 - k)) = bwd R n := by
  funext j
  unfold pushT bwd
  split
  · rename_i h; rw [h]
  · rfl
theorem bwd_err (h : TInv n R) {k : Nat} (hk : k < n) : TErr (bwd R n) k (R (n - 1 - k)).j (R (n - 1 - k)).y (R (n - 1 - k)).r (R (n - 1 - k)).p 0 :=
  .ok (h.ok _ (by omega)) (fun ⟨i, hi, e1, e2, e3⟩ => by
    have := h.uniq (n - 1 - i) (n - 1 - k) (by omega) (by omega) e1 e2 e3
    omega) (by have := h.le; omega)
theorem bwd_known {j : ByteArray} {y p q : Int} {ok : Bool} (h : Known R n j y p q ok) : Known (bwd R n) n j y p q ok :=
  h.rows (fun k hk => ⟨n - 1 - k, by omega, by unfold bwd; rw [show n - 1 - (n - 1 - k) = k by omega]⟩) (fun i hi => ⟨n - 1 - i, by omega, rfl⟩)
end
theorem uk_list : (⟨#[117, 107]⟩ : ByteArray).toList = [117, 107] := by rw [ByteArray.toList_eq]
theorem uk_yes {j : ByteArray} (h : j = ⟨#[117, 107]⟩) : j.toList = [117, 107] := by rw [h, uk_list]
theorem uk_not {j : ByteArray} (h : j ≠ ⟨#[117, 107]⟩) : (j.toList == [117, 107]) = false ∧ ¬ j.toList = [117, 107] := by
  have q := bytes_not h
  rw [uk_list] at q
  exact ⟨q, by simpa using q⟩
/-- the two places -/
def ud (k : Nat) : ByteArray := if k % 2 = 0 then ⟨#[117, 107]⟩ else ⟨#[100, 101]⟩
theorem ud_cell (w : World) (T : TypeId) {d k : Nat} (hd : d < 2) (hk : d = k % 2) (b : Nat) (hb : w.heap.size = b) : (w.alloc (.cells #[.string ⟨#[117, 107]⟩, .string ⟨#[100, 101]⟩] T)).cell? ⟨b, d, none⟩ = some (.string (ud k)) := by
  subst hb
  rw [cell_of_row _ w.heap.size d _ T (0, 0) (heap_alloc_new w _)]
  unfold ud
  rw [← hk]
  rcases (show d = 0 ∨ d = 1 by omega) with rfl | rfl <;> rfl
/-- a rate behind block rb -/
def RecIn (wr wx : World) (rb : Nat) (x : Rt) : Prop := wr.heap.size ≤ rb ∧ rb < wx.heap.size ∧ (∀ i u, (re x)[i]? = some u → wx.cell? ⟨rb, i, none⟩ = some u) ∧ Below wr.heap.size wr wx
theorem rec_sr (wr : World) (S : Obj) (x : Rt) (T : TypeId) : RecIn wr (((wr.alloc S).alloc (.cells #[.string x.j, .int .i64 x.y, .int .i64 x.r, .int .i64 x.p] T)).drew) (wr.heap.size + 1) x := by
  refine ⟨by omega, by simp, fun i u hu => ?_, ?_⟩
  · exact rec_lit (wr.alloc S) (re x) T (wr.heap.size + 1) (by simp) i u hu
  · exact (((Below.refl _ _).alloc (Nat.le_refl _) S).alloc (by simp) _).drew
theorem rec_rs (wr : World) (S : Obj) (x : Rt) (T : TypeId) : RecIn wr (((wr.alloc (.cells #[.string x.j, .int .i64 x.y, .int .i64 x.r, .int .i64 x.p] T)).alloc S).drew) wr.heap.size x := by
  refine ⟨Nat.le_refl _, by simp; omega, fun i u hu => ?_, ?_⟩
  · exact cell_keep (rec_lit wr (re x) T wr.heap.size rfl i u hu) ((Below.refl _ _).alloc (Nat.le_refl _) S).drew
  · exact (((Below.refl _ _).alloc (Nat.le_refl _) _).alloc (by simp) S).drew
/-- a row of rates of the law's own -/
theorem rowt_pushed {w w1 w2 : World} {O : Nat → Nat} {base sb n : Nat} {R : Nat → Rt} {x : Rt} {v : Value} {E : TypeId} {b2 c2 H : Nat} (hv : RowT w O base 5 sb E 4 v n (rl re R n)) (fn : Fin0 base O w) (hsb : sb < w.heap.size) (b1 : Below w.heap.size w w1) (g : w1.grownBy w2 v.ownBlock)
    (o2 : OwnR re 4 w2 E base (.slice (some ⟨b2, 0, none⟩) (n + 1) c2) (n + 1) (fun j => if j = n then x else R j)) (hat : v.ownBlock = some b2 ∨ b2 = H) (hH : w1.heap.size ≤ H) :
    RowT w2 (mark O 5 b2) base 5 sb E 4 (.slice (some ⟨b2, 0, none⟩) (n + 1) c2) (n + 1) (rl re (pushT R n x) (n + 1)) ∧ Step base O 5 w (mark O 5 b2) w2 := by
  have hl := World.ownsRow.lt o2 b2 rfl
  have hne : b2 ≠ sb := by
    rcases hat with q | q
    · exact (hv.tag b2 q).2
    · have := b1.size; omega
  have k1 := Step.of_below (t := 5) fn b1
  have k2 := Step.grown (t := 5) k1.fin g (fun b hb => (hv.tag b hb).1) hat hH hl.1 hl.2
  refine ⟨⟨o2, fun b hb => ?_⟩, k1.trans k2⟩
  have : b2 = b := by simpa [Value.ownBlock] using hb
  subst this
  exact ⟨mark_at _ _ _, hne⟩
set_option maxHeartbeats 4000000 in
set_option maxRecDepth 100000 in
theorem enactOrder_walk (a0 : Option Addr) (len0 cap0 : Nat) (a1 a2 : Int) (w : World) (w0 : Acts9 w a0 len0) (_w1 : (Lit.int .i64 a1).wf = true) (_w2 : (Lit.int .i64 a2).wf = true) :
    Calls Try.prog 4 #[.slice a0 len0 cap0, .int .i64 a1, .int .i64 a2] w fun e w' => e = .returned (.bool true) ∧ Below w.heap.size w w' := by
  obtain ⟨i0, hi, hz0, hz1, hz2⟩ := info_parts row_info
  clear _w1 _w2
  have HA := Lib.hid w0
  clear w0
  go_enter Try.func4, Try.ntmps4
  go_wp2_with fail
  refine (enew_any _).mono ?_
  rintro e w1 ⟨rfl, rfl⟩
  obtain ⟨nw, _⟩ := nowt_new w w (fun _ => 0) (Fin0.zero _ _) (Below.refl _ _) 31 53 1 rno
  obtain ⟨wa, hwa⟩ : ∃ wa, w.alloc (.cells #[.slice none 0 0] 53) = wa := ⟨_, rfl⟩
  rw [hwa] at nw ⊢
  go_wp2_with fail
  refine (enew_any _).mono ?_
  rintro e w1 ⟨rfl, rfl⟩
  obtain ⟨nb, sb⟩ := nowt_new w wa _ nw.fin nw.low 31 53 2 rno
  have NA := Lib.hid (nw.step (sb 4) (by decide) (by decide))
  have NB := Lib.hid nb
  have ab : Hid (w.heap.size < wa.heap.size) := Lib.hid (by rw [← hwa]; simp)
  clear nw nb sb hwa
  go_upto_block 0 with fail
  go_cut [9] (fun s9 wx => ∃ (n : Nat) (R : Nat → Rt) (O : Nat → Nat), NowT 31 w wx O 1 w.heap.size n R ∧ NowT 31 w wx O 2 wa.heap.size 0 rno ∧ RowT wx O w.heap.size 5 w.heap.size 31 4 s9 n (rl re R n))
  case first =>
    go_wp2
    go_loopg [9, 10] 12 (fun gh v i wr => ∃ (k n : Nat) (R : Nat → Rt) (O : Nat → Nat), k ≤ 12 ∧ gh = 12 - k ∧ i = .int .i64 k ∧ NowT 31 w wr O 1 w.heap.size n R ∧ NowT 31 w wr O 2 wa.heap.size 0 rno ∧ RowT wr O w.heap.size 5 w.heap.size 31 4 v n (rl re R n))
    case atStart => exact ⟨0, 0, _, _, by omega, rfl, rfl, NA.out, NB.out, RowT.nil _ _ _ _ _ _ _⟩
    case round =>
      obtain ⟨k, n, R, O, hk, hgk, rfl, hn1, hn2, hv⟩ := hrel
      have HGK := Lib.hid hgk
      have N1 := Lib.hid hn1
      have N2 := Lib.hid hn2
      have HV := Lib.hid hv
      clear hgk hn1 hn2 hv NA NB
      by_cases hlt : k < len0 ∧ k < 12
      · obtain ⟨hq1, hq2⟩ := hlt
        obtain ⟨b, off, j, y, r, p, raw, rfl, hb, ha⟩ := HA.out.some hq1
        have hlow := N1.out.low
        have ck1 := (cell_keep ha.k1 hlow)
        have ck2 := (cell_keep ha.k2 hlow)
        have ck3 := (cell_keep ha.k3 hlow)
        have hb1 : b < wr.heap.size := Nat.lt_of_lt_of_le hb hlow.size
        clear ha hlow
        go_wp2
        go_cut [9, 11] (fun s9 s11 wx => ∃ rb : Nat, s9 = u9 ∧ s11 = ptr rb ∧ RecIn wr wx rb ⟨ud k, y % 6, r % 1000001, p % 8⟩)
        case first =>
          obtain ⟨d, hd2, hdk, ht⟩ : ∃ d : Nat, d < 2 ∧ d = k % 2 ∧ Int.tmod (k : Int) 2 = (d : Int) := ⟨k % 2, by omega, rfl, by rw [Int.tmod_eq_emod_of_nonneg (by omega)]; omega⟩
          have HDK := Lib.hid hdk
          clear hdk
          have kl0 : (k : Int) < (len0 : Int) := by omega
          have kl1 : (0 : Int) ≤ (k : Int) := by omega
          have HU := Lib.hid (show ud k = if d = 0 then ⟨#[117, 107]⟩ else ⟨#[100, 101]⟩ by unfold ud; rw [HDK.out])
          clear HDK
          rcases (show d = 0 ∨ d = 1 by omega) with rfl | rfl
          · refine wp_region_noPanic ?_
            refine AnyTill.begin (C := fun w' => w'.cell? ⟨b, off + k * 5 + 1, none⟩ = some (.int .i64 y) ∧ w'.cell? ⟨b, off + k * 5 + 2, none⟩ = some (.int .i64 r) ∧ w'.cell? ⟨b, off + k * 5 + 3, none⟩ = some (.int .i64 p)) (q := 25) (by kernel_rfl) ?_
            have scd : wr.drew.cell? ⟨b, off + k * 5 + 1, none⟩ = some (.int .i64 y) ∧ wr.drew.cell? ⟨b, off + k * 5 + 2, none⟩ = some (.int .i64 r) ∧ wr.drew.cell? ⟨b, off + k * 5 + 3, none⟩ = some (.int .i64 p) := ⟨ck1, ck2, ck3⟩
            refine AnyTill.take (i := 1) (v := ?_) (by simp only [List.getElem?_toArray, List.getElem?_cons_succ, List.getElem?_cons_zero]; rfl) (by kernel_rfl) (by kernel_rfl) (by kernel_rfl) (by kernel_rfl) (fun _ _ _ h => h) (Or.inl ⟨by rfl, ?_⟩) scd ?_
            rotate_left
            · intro w' hw'; (try dsimp only at hw'); go_simp <;> with_reducible rfl
            try simp only [Act.put, List.setIfInBounds_toArray, List.set_cons_zero, List.set_cons_succ]
            refine AnyTill.take (i := 2) (v := ?_) (by simp only [List.getElem?_toArray, List.getElem?_cons_succ, List.getElem?_cons_zero]; rfl) (by kernel_rfl) (by kernel_rfl) (by kernel_rfl) (by kernel_rfl) (fun _ _ _ h => h) (Or.inl ⟨by rfl, ?_⟩) scd ?_
            rotate_left
            · intro w' hw'; (try dsimp only at hw'); go_simp <;> with_reducible rfl
            try simp only [Act.put, List.setIfInBounds_toArray, List.set_cons_zero, List.set_cons_succ]
            refine AnyTill.take (i := 5) (v := ?_) (by simp only [List.getElem?_toArray, List.getElem?_cons_succ, List.getElem?_cons_zero]; rfl) (by kernel_rfl) (by kernel_rfl) (by kernel_rfl) (by kernel_rfl) (fun _ _ _ h => h) (Or.inl ⟨by rfl, ?_⟩) scd ?_
            rotate_left
            · intro w' hw'; (try dsimp only at hw'); go_simp <;> with_reducible rfl
            try simp only [Act.put, List.setIfInBounds_toArray, List.set_cons_zero, List.set_cons_succ]
            refine AnyTill.take (i := 6) (v := ?_) (by simp only [List.getElem?_toArray, List.getElem?_cons_succ, List.getElem?_cons_zero]; rfl) (by kernel_rfl) (by kernel_rfl) (by kernel_rfl) (by kernel_rfl) (fun _ _ _ h => h) (Or.inl ⟨by rfl, ?_⟩) scd ?_
            rotate_left
            · intro w' hw'; (try dsimp only at hw'); go_simp <;> with_reducible rfl
            try simp only [Act.put, List.setIfInBounds_toArray, List.set_cons_zero, List.set_cons_succ]
            refine AnyTill.take (i := 7) (v := ?_) (by simp only [List.getElem?_toArray, List.getElem?_cons_succ, List.getElem?_cons_zero]; rfl) (by kernel_rfl) (by kernel_rfl) (by kernel_rfl) (by kernel_rfl) (fun _ _ _ h => h) (Or.inl ⟨by rfl, ?_⟩) scd ?_
            rotate_left
            · intro w' hw'; (try dsimp only at hw'); go_simp <;> with_reducible rfl
            try simp only [Act.put, List.setIfInBounds_toArray, List.set_cons_zero, List.set_cons_succ]
            refine AnyTill.take (i := 8) (v := ?_) (by simp only [List.getElem?_toArray, List.getElem?_cons_succ, List.getElem?_cons_zero]; rfl) (by kernel_rfl) (by kernel_rfl) (by kernel_rfl) (by kernel_rfl) (fun _ _ _ h => h) (Or.inl ⟨by rfl, ?_⟩) scd ?_
            rotate_left
            · intro w' hw'; (try dsimp only at hw'); go_simp <;> with_reducible rfl
            try simp only [Act.put, List.setIfInBounds_toArray, List.set_cons_zero, List.set_cons_succ]
            refine AnyTill.take (i := 9) (v := ?_) (by simp only [List.getElem?_toArray, List.getElem?_cons_succ, List.getElem?_cons_zero]; rfl) (by kernel_rfl) (by kernel_rfl) (by kernel_rfl) (by kernel_rfl) (fun _ _ _ h => h) (Or.inl ⟨by rfl, ?_⟩) scd ?_
            rotate_left
            · intro w' hw'; (try dsimp only at hw'); go_simp <;> with_reducible rfl
            try simp only [Act.put, List.setIfInBounds_toArray, List.set_cons_zero, List.set_cons_succ]
            refine AnyTill.takeC (i := 10) (v := .int .i64 (y % 6)) (by simp only [List.getElem?_toArray, List.getElem?_cons_succ, List.getElem?_cons_zero]; rfl) (by kernel_rfl) (by kernel_rfl) (by kernel_rfl) (by kernel_rfl) (fun _ _ _ h => h) ⟨by rfl, 11, #[.int .i64 y, .int .i64 6], fun w' hw' => ?_, fun w' _ => within_any y 6 w' (by omega) (by omega)⟩ scd ?_
            · (try dsimp only at hw'); go_simp <;> with_reducible rfl
            try simp only [Act.put, List.setIfInBounds_toArray, List.set_cons_zero, List.set_cons_succ]
            refine AnyTill.take (i := 11) (v := ?_) (by simp only [List.getElem?_toArray, List.getElem?_cons_succ, List.getElem?_cons_zero]; rfl) (by kernel_rfl) (by kernel_rfl) (by kernel_rfl) (by kernel_rfl) (fun _ _ _ h => h) (Or.inl ⟨by rfl, ?_⟩) scd ?_
            rotate_left
            · intro w' hw'; (try dsimp only at hw'); go_simp <;> with_reducible rfl
            try simp only [Act.put, List.setIfInBounds_toArray, List.set_cons_zero, List.set_cons_succ]
            refine AnyTill.take (i := 12) (v := ?_) (by simp only [List.getElem?_toArray, List.getElem?_cons_succ, List.getElem?_cons_zero]; rfl) (by kernel_rfl) (by kernel_rfl) (by kernel_rfl) (by kernel_rfl) (fun _ _ _ h => h) (Or.inl ⟨by rfl, ?_⟩) scd ?_
            rotate_left
            · intro w' hw'; (try dsimp only at hw'); go_simp <;> with_reducible rfl
            try simp only [Act.put, List.setIfInBounds_toArray, List.set_cons_zero, List.set_cons_succ]
            refine AnyTill.take (i := 13) (v := ?_) (by simp only [List.getElem?_toArray, List.getElem?_cons_succ, List.getElem?_cons_zero]; rfl) (by kernel_rfl) (by kernel_rfl) (by kernel_rfl) (by kernel_rfl) (fun _ _ _ h => h) (Or.inl ⟨by rfl, ?_⟩) scd ?_
            rotate_left
            · intro w' hw'; (try dsimp only at hw'); go_simp <;> with_reducible rfl
            try simp only [Act.put, List.setIfInBounds_toArray, List.set_cons_zero, List.set_cons_succ]
            refine AnyTill.take (i := 14) (v := ?_) (by simp only [List.getElem?_toArray, List.getElem?_cons_succ, List.getElem?_cons_zero]; rfl) (by kernel_rfl) (by kernel_rfl) (by kernel_rfl) (by kernel_rfl) (fun _ _ _ h => h) (Or.inl ⟨by rfl, ?_⟩) scd ?_
            rotate_left
            · intro w' hw'; (try dsimp only at hw'); go_simp <;> with_reducible rfl
            try simp only [Act.put, List.setIfInBounds_toArray, List.set_cons_zero, List.set_cons_succ]
            refine AnyTill.take (i := 15) (v := ?_) (by simp only [List.getElem?_toArray, List.getElem?_cons_succ, List.getElem?_cons_zero]; rfl) (by kernel_rfl) (by kernel_rfl) (by kernel_rfl) (by kernel_rfl) (fun _ _ _ h => h) (Or.inl ⟨by rfl, ?_⟩) scd ?_
            rotate_left
            · intro w' hw'; (try dsimp only at hw'); go_simp <;> with_reducible rfl
            try simp only [Act.put, List.setIfInBounds_toArray, List.set_cons_zero, List.set_cons_succ]
            refine AnyTill.takeC (i := 16) (v := .int .i64 (r % 1000001)) (by simp only [List.getElem?_toArray, List.getElem?_cons_succ, List.getElem?_cons_zero]; rfl) (by kernel_rfl) (by kernel_rfl) (by kernel_rfl) (by kernel_rfl) (fun _ _ _ h => h) ⟨by rfl, 11, #[.int .i64 r, .int .i64 1000001], fun w' hw' => ?_, fun w' _ => within_any r 1000001 w' (by omega) (by omega)⟩ scd ?_
            · (try dsimp only at hw'); go_simp <;> with_reducible rfl
            try simp only [Act.put, List.setIfInBounds_toArray, List.set_cons_zero, List.set_cons_succ]
            refine AnyTill.take (i := 17) (v := ?_) (by simp only [List.getElem?_toArray, List.getElem?_cons_succ, List.getElem?_cons_zero]; rfl) (by kernel_rfl) (by kernel_rfl) (by kernel_rfl) (by kernel_rfl) (fun _ _ _ h => h) (Or.inl ⟨by rfl, ?_⟩) scd ?_
            rotate_left
            · intro w' hw'; (try dsimp only at hw'); go_simp <;> with_reducible rfl
            try simp only [Act.put, List.setIfInBounds_toArray, List.set_cons_zero, List.set_cons_succ]
            refine AnyTill.take (i := 18) (v := ?_) (by simp only [List.getElem?_toArray, List.getElem?_cons_succ, List.getElem?_cons_zero]; rfl) (by kernel_rfl) (by kernel_rfl) (by kernel_rfl) (by kernel_rfl) (fun _ _ _ h => h) (Or.inl ⟨by rfl, ?_⟩) scd ?_
            rotate_left
            · intro w' hw'; (try dsimp only at hw'); go_simp <;> with_reducible rfl
            try simp only [Act.put, List.setIfInBounds_toArray, List.set_cons_zero, List.set_cons_succ]
            refine AnyTill.take (i := 19) (v := ?_) (by simp only [List.getElem?_toArray, List.getElem?_cons_succ, List.getElem?_cons_zero]; rfl) (by kernel_rfl) (by kernel_rfl) (by kernel_rfl) (by kernel_rfl) (fun _ _ _ h => h) (Or.inl ⟨by rfl, ?_⟩) scd ?_
            rotate_left
            · intro w' hw'; (try dsimp only at hw'); go_simp <;> with_reducible rfl
            try simp only [Act.put, List.setIfInBounds_toArray, List.set_cons_zero, List.set_cons_succ]
            refine AnyTill.take (i := 20) (v := ?_) (by simp only [List.getElem?_toArray, List.getElem?_cons_succ, List.getElem?_cons_zero]; rfl) (by kernel_rfl) (by kernel_rfl) (by kernel_rfl) (by kernel_rfl) (fun _ _ _ h => h) (Or.inl ⟨by rfl, ?_⟩) scd ?_
            rotate_left
            · intro w' hw'; (try dsimp only at hw'); go_simp <;> with_reducible rfl
            try simp only [Act.put, List.setIfInBounds_toArray, List.set_cons_zero, List.set_cons_succ]
            refine AnyTill.take (i := 21) (v := ?_) (by simp only [List.getElem?_toArray, List.getElem?_cons_succ, List.getElem?_cons_zero]; rfl) (by kernel_rfl) (by kernel_rfl) (by kernel_rfl) (by kernel_rfl) (fun _ _ _ h => h) (Or.inl ⟨by rfl, ?_⟩) scd ?_
            rotate_left
            · intro w' hw'; (try dsimp only at hw'); go_simp <;> with_reducible rfl
            try simp only [Act.put, List.setIfInBounds_toArray, List.set_cons_zero, List.set_cons_succ]
            refine AnyTill.takeC (i := 22) (v := .int .i64 (p % 8)) (by simp only [List.getElem?_toArray, List.getElem?_cons_succ, List.getElem?_cons_zero]; rfl) (by kernel_rfl) (by kernel_rfl) (by kernel_rfl) (by kernel_rfl) (fun _ _ _ h => h) ⟨by rfl, 11, #[.int .i64 p, .int .i64 8], fun w' hw' => ?_, fun w' _ => within_any p 8 w' (by omega) (by omega)⟩ scd ?_
            · (try dsimp only at hw'); go_simp <;> with_reducible rfl
            try simp only [Act.put, List.setIfInBounds_toArray, List.set_cons_zero, List.set_cons_succ]
            have SC : Hid (∀ w', Below wr.heap.size wr w' → (w'.cell? ⟨b, off + k * 5 + 1, none⟩ = some (.int .i64 y) ∧ w'.cell? ⟨b, off + k * 5 + 2, none⟩ = some (.int .i64 r) ∧ w'.cell? ⟨b, off + k * 5 + 3, none⟩ = some (.int .i64 p))) := Lib.hid fun w' h => ⟨cell_keep ck1 h, cell_keep ck2 h, cell_keep ck3 h⟩
            have hdr := below_drew wr
            have bS : Below wr.heap.size wr (wr.drew.alloc (.cells #[.string ⟨#[117, 107]⟩, .string ⟨#[100, 101]⟩] 9)) := hdr.alloc hdr.size _
            have bSR : Below wr.heap.size wr ((wr.drew.alloc (.cells #[.string ⟨#[117, 107]⟩, .string ⟨#[100, 101]⟩] 9)).alloc (.cells #[.string ⟨#[]⟩, .int .i64 0, .int .i64 0, .int .i64 0] 31)) := bS.alloc bS.size _
            have bR : Below wr.heap.size wr (wr.drew.alloc (.cells #[.string ⟨#[]⟩, .int .i64 0, .int .i64 0, .int .i64 0] 31)) := hdr.alloc hdr.size _
            have bRS : Below wr.heap.size wr ((wr.drew.alloc (.cells #[.string ⟨#[]⟩, .int .i64 0, .int .i64 0, .int .i64 0] 31)).alloc (.cells #[.string ⟨#[117, 107]⟩, .string ⟨#[100, 101]⟩] 9)) := bR.alloc bR.size _
            have BS := Lib.hid bS
            have BSR := Lib.hid bSR
            have BR := Lib.hid bR
            have BRS := Lib.hid bRS
            clear bS bSR bR bRS hdr
            refine' AnyTill.two (i := 0) (k := 24) (o := _) (o' := _) (by kernel_rfl) ?za1a ?za1b (fun K' hK => ?za1x) (fun K' hK => ?za1y)
            case za1a => (simp only [List.getElem?_toArray, List.getElem?_cons_zero]; rfl)
            case za1b => (simp only [List.getElem?_toArray, List.getElem?_cons_succ, List.getElem?_cons_zero]; rfl)
            case za1x =>
              go_simp
              refine hK.out _ _ (.inr (SC.out _ BS.out)) ?_
              clear hK K'
              try simp only [Act.put, List.setIfInBounds_toArray, List.set_cons_zero, List.set_cons_succ]
              refine AnyTill.take (i := 3) (v := ?_) (by simp only [List.getElem?_toArray, List.getElem?_cons_succ, List.getElem?_cons_zero]; rfl) (by kernel_rfl) (by kernel_rfl) (by kernel_rfl) (by kernel_rfl) (fun _ _ _ h => h) (Or.inl ⟨by rfl, ?_⟩) (SC.out _ BS.out) ?_
              rotate_left
              · intro w' hw'; (try dsimp only at hw'); go_simp <;> with_reducible rfl
              try simp only [Act.put, List.setIfInBounds_toArray, List.set_cons_zero, List.set_cons_succ]
              refine' AnyTill.two (i := 4) (k := 24) (o := _) (o' := _) (by kernel_rfl) ?za2a ?za2b (fun K' hK => ?za2x) (fun K' hK => ?za2y)
              case za2a => (simp only [List.getElem?_toArray, List.getElem?_cons_succ, List.getElem?_cons_zero]; rfl)
              case za2b => (simp only [List.getElem?_toArray, List.getElem?_cons_succ, List.getElem?_cons_zero]; rfl)
              case za2x =>
                go_simp
                refine hK.out _ _ (.inr (SC.out _ BS.out)) ?_
                clear hK K'
                try simp only [Act.put, List.setIfInBounds_toArray, List.set_cons_zero, List.set_cons_succ]
                refine AnyTill.take (i := 23) (v := ?_) (by simp only [List.getElem?_toArray, List.getElem?_cons_succ, List.getElem?_cons_zero]; rfl) (by kernel_rfl) (by kernel_rfl) (by kernel_rfl) (by kernel_rfl) (fun _ _ _ h => h) (Or.inl ⟨by rfl, ?_⟩) (SC.out _ BS.out) ?_
                rotate_left
                · intro w' hw'; (try dsimp only at hw'); go_simp <;> with_reducible rfl
                try simp only [Act.put, List.setIfInBounds_toArray, List.set_cons_zero, List.set_cons_succ]
                refine' AnyTill.one (i := 24) (o := _) (by kernel_rfl) ?za3h (fun K' hK => ?za3k)
                case za3h => (simp only [List.getElem?_toArray, List.getElem?_cons_succ, List.getElem?_cons_zero]; rfl)
                go_simp
                refine hK.out _ _ (.inr (SC.out _ BSR.out)) ?_
                clear hK K'
                try simp only [Act.put, List.setIfInBounds_toArray, List.set_cons_zero, List.set_cons_succ]
                refine' AnyTill.one (i := 25) (o := _) (by kernel_rfl) ?za4h (fun K' hK => ?za4k)
                case za4h => (simp only [List.getElem?_toArray, List.getElem?_cons_succ, List.getElem?_cons_zero]; rfl)
                go_simp
                refine hK.out _ _ (.inl rfl) ?_
                clear hK K'
                try simp only [Act.put, List.setIfInBounds_toArray, List.set_cons_zero, List.set_cons_succ]
                refine AnyTill.done (by kernel_rfl) ?_ _
                refine NoPanic.normal ?_
                go_wp2
                go_meet
                exact ⟨_, rfl, rfl, by rw [HU.out]; exact rec_sr wr _ ⟨⟨#[117, 107]⟩, y % 6, r % 1000001, p % 8⟩ _⟩
              case za2y =>
                go_simp
                refine hK.out _ _ (.inr (SC.out _ BSR.out)) ?_
                clear hK K'
                try simp only [Act.put, List.setIfInBounds_toArray, List.set_cons_zero, List.set_cons_succ]
                refine' AnyTill.one (i := 4) (o := _) (by kernel_rfl) ?za5h (fun K' hK => ?za5k)
                case za5h => (simp only [List.getElem?_toArray, List.getElem?_cons_succ, List.getElem?_cons_zero]; rfl)
                go_simp
                refine hK.out _ _ (.inr (SC.out _ BSR.out)) ?_
                clear hK K'
                try simp only [Act.put, List.setIfInBounds_toArray, List.set_cons_zero, List.set_cons_succ]
                refine' AnyTill.one (i := 23) (o := _) (by kernel_rfl) ?za6h (fun K' hK => ?za6k)
                case za6h => (simp only [List.getElem?_toArray, List.getElem?_cons_succ, List.getElem?_cons_zero]; rfl)
                go_simp
                refine hK.out _ _ (.inr (SC.out _ BSR.out)) ?_
                clear hK K'
                try simp only [Act.put, List.setIfInBounds_toArray, List.set_cons_zero, List.set_cons_succ]
                refine' AnyTill.one (i := 25) (o := _) (by kernel_rfl) ?za7h (fun K' hK => ?za7k)
                case za7h => (simp only [List.getElem?_toArray, List.getElem?_cons_succ, List.getElem?_cons_zero]; rfl)
                go_simp
                refine hK.out _ _ (.inl rfl) ?_
                clear hK K'
                try simp only [Act.put, List.setIfInBounds_toArray, List.set_cons_zero, List.set_cons_succ]
                refine AnyTill.done (by kernel_rfl) ?_ _
                refine NoPanic.normal ?_
                go_wp2
                go_meet
                exact ⟨_, rfl, rfl, by rw [HU.out]; exact rec_sr wr _ ⟨⟨#[117, 107]⟩, y % 6, r % 1000001, p % 8⟩ _⟩
            case za1y =>
              go_simp
              refine hK.out _ _ (.inr (SC.out _ BR.out)) ?_
              clear hK K'
              try simp only [Act.put, List.setIfInBounds_toArray, List.set_cons_zero, List.set_cons_succ]
              refine' AnyTill.one (i := 0) (o := _) (by kernel_rfl) ?za8h (fun K' hK => ?za8k)
              case za8h => (simp only [List.getElem?_toArray, List.getElem?_cons_zero]; rfl)
              go_simp
              refine hK.out _ _ (.inr (SC.out _ BRS.out)) ?_
              clear hK K'
              try simp only [Act.put, List.setIfInBounds_toArray, List.set_cons_zero, List.set_cons_succ]
              refine' AnyTill.one (i := 3) (o := _) (by kernel_rfl) ?za9h (fun K' hK => ?za9k)
              case za9h => (simp only [List.getElem?_toArray, List.getElem?_cons_succ, List.getElem?_cons_zero]; rfl)
              go_simp
              refine hK.out _ _ (.inr (SC.out _ BRS.out)) ?_
              clear hK K'
              try simp only [Act.put, List.setIfInBounds_toArray, List.set_cons_zero, List.set_cons_succ]
              refine' AnyTill.one (i := 4) (o := _) (by kernel_rfl) ?za10h (fun K' hK => ?za10k)
              case za10h => (simp only [List.getElem?_toArray, List.getElem?_cons_succ, List.getElem?_cons_zero]; rfl)
              go_simp
              refine hK.out _ _ (.inr (SC.out _ BRS.out)) ?_
              clear hK K'
              try simp only [Act.put, List.setIfInBounds_toArray, List.set_cons_zero, List.set_cons_succ]
              refine' AnyTill.one (i := 23) (o := _) (by kernel_rfl) ?za11h (fun K' hK => ?za11k)
              case za11h => (simp only [List.getElem?_toArray, List.getElem?_cons_succ, List.getElem?_cons_zero]; rfl)
              go_simp
              refine hK.out _ _ (.inr (SC.out _ BRS.out)) ?_
              clear hK K'
              try simp only [Act.put, List.setIfInBounds_toArray, List.set_cons_zero, List.set_cons_succ]
              refine' AnyTill.one (i := 25) (o := _) (by kernel_rfl) ?za12h (fun K' hK => ?za12k)
              case za12h => (simp only [List.getElem?_toArray, List.getElem?_cons_succ, List.getElem?_cons_zero]; rfl)
              go_simp
              refine hK.out _ _ (.inl rfl) ?_
              clear hK K'
              try simp only [Act.put, List.setIfInBounds_toArray, List.set_cons_zero, List.set_cons_succ]
              refine AnyTill.done (by kernel_rfl) ?_ _
              refine NoPanic.normal ?_
              go_wp2
              go_meet
              exact ⟨_, rfl, rfl, by rw [HU.out]; exact rec_rs wr _ ⟨⟨#[117, 107]⟩, y % 6, r % 1000001, p % 8⟩ _⟩
          · refine wp_region_noPanic ?_
            refine AnyTill.begin (C := fun w' => w'.cell? ⟨b, off + k * 5 + 1, none⟩ = some (.int .i64 y) ∧ w'.cell? ⟨b, off + k * 5 + 2, none⟩ = some (.int .i64 r) ∧ w'.cell? ⟨b, off + k * 5 + 3, none⟩ = some (.int .i64 p)) (q := 25) (by kernel_rfl) ?_
            have scd : wr.drew.cell? ⟨b, off + k * 5 + 1, none⟩ = some (.int .i64 y) ∧ wr.drew.cell? ⟨b, off + k * 5 + 2, none⟩ = some (.int .i64 r) ∧ wr.drew.cell? ⟨b, off + k * 5 + 3, none⟩ = some (.int .i64 p) := ⟨ck1, ck2, ck3⟩
            refine AnyTill.take (i := 1) (v := ?_) (by simp only [List.getElem?_toArray, List.getElem?_cons_succ, List.getElem?_cons_zero]; rfl) (by kernel_rfl) (by kernel_rfl) (by kernel_rfl) (by kernel_rfl) (fun _ _ _ h => h) (Or.inl ⟨by rfl, ?_⟩) scd ?_
            rotate_left
            · intro w' hw'; (try dsimp only at hw'); go_simp <;> with_reducible rfl
            try simp only [Act.put, List.setIfInBounds_toArray, List.set_cons_zero, List.set_cons_succ]
            refine AnyTill.take (i := 2) (v := ?_) (by simp only [List.getElem?_toArray, List.getElem?_cons_succ, List.getElem?_cons_zero]; rfl) (by kernel_rfl) (by kernel_rfl) (by kernel_rfl) (by kernel_rfl) (fun _ _ _ h => h) (Or.inl ⟨by rfl, ?_⟩) scd ?_
            rotate_left
            · intro w' hw'; (try dsimp only at hw'); go_simp <;> with_reducible rfl
            try simp only [Act.put, List.setIfInBounds_toArray, List.set_cons_zero, List.set_cons_succ]
            refine AnyTill.take (i := 5) (v := ?_) (by simp only [List.getElem?_toArray, List.getElem?_cons_succ, List.getElem?_cons_zero]; rfl) (by kernel_rfl) (by kernel_rfl) (by kernel_rfl) (by kernel_rfl) (fun _ _ _ h => h) (Or.inl ⟨by rfl, ?_⟩) scd ?_
            rotate_left
            · intro w' hw'; (try dsimp only at hw'); go_simp <;> with_reducible rfl
            try simp only [Act.put, List.setIfInBounds_toArray, List.set_cons_zero, List.set_cons_succ]
            refine AnyTill.take (i := 6) (v := ?_) (by simp only [List.getElem?_toArray, List.getElem?_cons_succ, List.getElem?_cons_zero]; rfl) (by kernel_rfl) (by kernel_rfl) (by kernel_rfl) (by kernel_rfl) (fun _ _ _ h => h) (Or.inl ⟨by rfl, ?_⟩) scd ?_
            rotate_left
            · intro w' hw'; (try dsimp only at hw'); go_simp <;> with_reducible rfl
            try simp only [Act.put, List.setIfInBounds_toArray, List.set_cons_zero, List.set_cons_succ]
            refine AnyTill.take (i := 7) (v := ?_) (by simp only [List.getElem?_toArray, List.getElem?_cons_succ, List.getElem?_cons_zero]; rfl) (by kernel_rfl) (by kernel_rfl) (by kernel_rfl) (by kernel_rfl) (fun _ _ _ h => h) (Or.inl ⟨by rfl, ?_⟩) scd ?_
            rotate_left
            · intro w' hw'; (try dsimp only at hw'); go_simp <;> with_reducible rfl
            try simp only [Act.put, List.setIfInBounds_toArray, List.set_cons_zero, List.set_cons_succ]
            refine AnyTill.take (i := 8) (v := ?_) (by simp only [List.getElem?_toArray, List.getElem?_cons_succ, List.getElem?_cons_zero]; rfl) (by kernel_rfl) (by kernel_rfl) (by kernel_rfl) (by kernel_rfl) (fun _ _ _ h => h) (Or.inl ⟨by rfl, ?_⟩) scd ?_
            rotate_left
            · intro w' hw'; (try dsimp only at hw'); go_simp <;> with_reducible rfl
            try simp only [Act.put, List.setIfInBounds_toArray, List.set_cons_zero, List.set_cons_succ]
            refine AnyTill.take (i := 9) (v := ?_) (by simp only [List.getElem?_toArray, List.getElem?_cons_succ, List.getElem?_cons_zero]; rfl) (by kernel_rfl) (by kernel_rfl) (by kernel_rfl) (by kernel_rfl) (fun _ _ _ h => h) (Or.inl ⟨by rfl, ?_⟩) scd ?_
            rotate_left
            · intro w' hw'; (try dsimp only at hw'); go_simp <;> with_reducible rfl
            try simp only [Act.put, List.setIfInBounds_toArray, List.set_cons_zero, List.set_cons_succ]
            refine AnyTill.takeC (i := 10) (v := .int .i64 (y % 6)) (by simp only [List.getElem?_toArray, List.getElem?_cons_succ, List.getElem?_cons_zero]; rfl) (by kernel_rfl) (by kernel_rfl) (by kernel_rfl) (by kernel_rfl) (fun _ _ _ h => h) ⟨by rfl, 11, #[.int .i64 y, .int .i64 6], fun w' hw' => ?_, fun w' _ => within_any y 6 w' (by omega) (by omega)⟩ scd ?_
            · (try dsimp only at hw'); go_simp <;> with_reducible rfl
            try simp only [Act.put, List.setIfInBounds_toArray, List.set_cons_zero, List.set_cons_succ]
            refine AnyTill.take (i := 11) (v := ?_) (by simp only [List.getElem?_toArray, List.getElem?_cons_succ, List.getElem?_cons_zero]; rfl) (by kernel_rfl) (by kernel_rfl) (by kernel_rfl) (by kernel_rfl) (fun _ _ _ h => h) (Or.inl ⟨by rfl, ?_⟩) scd ?_
            rotate_left
            · intro w' hw'; (try dsimp only at hw'); go_simp <;> with_reducible rfl
            try simp only [Act.put, List.setIfInBounds_toArray, List.set_cons_zero, List.set_cons_succ]
            refine AnyTill.take (i := 12) (v := ?_) (by simp only [List.getElem?_toArray, List.getElem?_cons_succ, List.getElem?_cons_zero]; rfl) (by kernel_rfl) (by kernel_rfl) (by kernel_rfl) (by kernel_rfl) (fun _ _ _ h => h) (Or.inl ⟨by rfl, ?_⟩) scd ?_
            rotate_left
            · intro w' hw'; (try dsimp only at hw'); go_simp <;> with_reducible rfl
            try simp only [Act.put, List.setIfInBounds_toArray, List.set_cons_zero, List.set_cons_succ]
            refine AnyTill.take (i := 13) (v := ?_) (by simp only [List.getElem?_toArray, List.getElem?_cons_succ, List.getElem?_cons_zero]; rfl) (by kernel_rfl) (by kernel_rfl) (by kernel_rfl) (by kernel_rfl) (fun _ _ _ h => h) (Or.inl ⟨by rfl, ?_⟩) scd ?_
            rotate_left
            · intro w' hw'; (try dsimp only at hw'); go_simp <;> with_reducible rfl
            try simp only [Act.put, List.setIfInBounds_toArray, List.set_cons_zero, List.set_cons_succ]
            refine AnyTill.take (i := 14) (v := ?_) (by simp only [List.getElem?_toArray, List.getElem?_cons_succ, List.getElem?_cons_zero]; rfl) (by kernel_rfl) (by kernel_rfl) (by kernel_rfl) (by kernel_rfl) (fun _ _ _ h => h) (Or.inl ⟨by rfl, ?_⟩) scd ?_
            rotate_left
            · intro w' hw'; (try dsimp only at hw'); go_simp <;> with_reducible rfl
            try simp only [Act.put, List.setIfInBounds_toArray, List.set_cons_zero, List.set_cons_succ]
            refine AnyTill.take (i := 15) (v := ?_) (by simp only [List.getElem?_toArray, List.getElem?_cons_succ, List.getElem?_cons_zero]; rfl) (by kernel_rfl) (by kernel_rfl) (by kernel_rfl) (by kernel_rfl) (fun _ _ _ h => h) (Or.inl ⟨by rfl, ?_⟩) scd ?_
            rotate_left
            · intro w' hw'; (try dsimp only at hw'); go_simp <;> with_reducible rfl
            try simp only [Act.put, List.setIfInBounds_toArray, List.set_cons_zero, List.set_cons_succ]
            refine AnyTill.takeC (i := 16) (v := .int .i64 (r % 1000001)) (by simp only [List.getElem?_toArray, List.getElem?_cons_succ, List.getElem?_cons_zero]; rfl) (by kernel_rfl) (by kernel_rfl) (by kernel_rfl) (by kernel_rfl) (fun _ _ _ h => h) ⟨by rfl, 11, #[.int .i64 r, .int .i64 1000001], fun w' hw' => ?_, fun w' _ => within_any r 1000001 w' (by omega) (by omega)⟩ scd ?_
            · (try dsimp only at hw'); go_simp <;> with_reducible rfl
            try simp only [Act.put, List.setIfInBounds_toArray, List.set_cons_zero, List.set_cons_succ]
            refine AnyTill.take (i := 17) (v := ?_) (by simp only [List.getElem?_toArray, List.getElem?_cons_succ, List.getElem?_cons_zero]; rfl) (by kernel_rfl) (by kernel_rfl) (by kernel_rfl) (by kernel_rfl) (fun _ _ _ h => h) (Or.inl ⟨by rfl, ?_⟩) scd ?_
            rotate_left
            · intro w' hw'; (try dsimp only at hw'); go_simp <;> with_reducible rfl
            try simp only [Act.put, List.setIfInBounds_toArray, List.set_cons_zero, List.set_cons_succ]
            refine AnyTill.take (i := 18) (v := ?_) (by simp only [List.getElem?_toArray, List.getElem?_cons_succ, List.getElem?_cons_zero]; rfl) (by kernel_rfl) (by kernel_rfl) (by kernel_rfl) (by kernel_rfl) (fun _ _ _ h => h) (Or.inl ⟨by rfl, ?_⟩) scd ?_
            rotate_left
            · intro w' hw'; (try dsimp only at hw'); go_simp <;> with_reducible rfl
            try simp only [Act.put, List.setIfInBounds_toArray, List.set_cons_zero, List.set_cons_succ]
            refine AnyTill.take (i := 19) (v := ?_) (by simp only [List.getElem?_toArray, List.getElem?_cons_succ, List.getElem?_cons_zero]; rfl) (by kernel_rfl) (by kernel_rfl) (by kernel_rfl) (by kernel_rfl) (fun _ _ _ h => h) (Or.inl ⟨by rfl, ?_⟩) scd ?_
            rotate_left
            · intro w' hw'; (try dsimp only at hw'); go_simp <;> with_reducible rfl
            try simp only [Act.put, List.setIfInBounds_toArray, List.set_cons_zero, List.set_cons_succ]
            refine AnyTill.take (i := 20) (v := ?_) (by simp only [List.getElem?_toArray, List.getElem?_cons_succ, List.getElem?_cons_zero]; rfl) (by kernel_rfl) (by kernel_rfl) (by kernel_rfl) (by kernel_rfl) (fun _ _ _ h => h) (Or.inl ⟨by rfl, ?_⟩) scd ?_
            rotate_left
            · intro w' hw'; (try dsimp only at hw'); go_simp <;> with_reducible rfl
            try simp only [Act.put, List.setIfInBounds_toArray, List.set_cons_zero, List.set_cons_succ]
            refine AnyTill.take (i := 21) (v := ?_) (by simp only [List.getElem?_toArray, List.getElem?_cons_succ, List.getElem?_cons_zero]; rfl) (by kernel_rfl) (by kernel_rfl) (by kernel_rfl) (by kernel_rfl) (fun _ _ _ h => h) (Or.inl ⟨by rfl, ?_⟩) scd ?_
            rotate_left
            · intro w' hw'; (try dsimp only at hw'); go_simp <;> with_reducible rfl
            try simp only [Act.put, List.setIfInBounds_toArray, List.set_cons_zero, List.set_cons_succ]
            refine AnyTill.takeC (i := 22) (v := .int .i64 (p % 8)) (by simp only [List.getElem?_toArray, List.getElem?_cons_succ, List.getElem?_cons_zero]; rfl) (by kernel_rfl) (by kernel_rfl) (by kernel_rfl) (by kernel_rfl) (fun _ _ _ h => h) ⟨by rfl, 11, #[.int .i64 p, .int .i64 8], fun w' hw' => ?_, fun w' _ => within_any p 8 w' (by omega) (by omega)⟩ scd ?_
            · (try dsimp only at hw'); go_simp <;> with_reducible rfl
            try simp only [Act.put, List.setIfInBounds_toArray, List.set_cons_zero, List.set_cons_succ]
            have SC : Hid (∀ w', Below wr.heap.size wr w' → (w'.cell? ⟨b, off + k * 5 + 1, none⟩ = some (.int .i64 y) ∧ w'.cell? ⟨b, off + k * 5 + 2, none⟩ = some (.int .i64 r) ∧ w'.cell? ⟨b, off + k * 5 + 3, none⟩ = some (.int .i64 p))) := Lib.hid fun w' h => ⟨cell_keep ck1 h, cell_keep ck2 h, cell_keep ck3 h⟩
            have hdr := below_drew wr
            have bS : Below wr.heap.size wr (wr.drew.alloc (.cells #[.string ⟨#[117, 107]⟩, .string ⟨#[100, 101]⟩] 9)) := hdr.alloc hdr.size _
            have bSR : Below wr.heap.size wr ((wr.drew.alloc (.cells #[.string ⟨#[117, 107]⟩, .string ⟨#[100, 101]⟩] 9)).alloc (.cells #[.string ⟨#[]⟩, .int .i64 0, .int .i64 0, .int .i64 0] 31)) := bS.alloc bS.size _
            have bR : Below wr.heap.size wr (wr.drew.alloc (.cells #[.string ⟨#[]⟩, .int .i64 0, .int .i64 0, .int .i64 0] 31)) := hdr.alloc hdr.size _
            have bRS : Below wr.heap.size wr ((wr.drew.alloc (.cells #[.string ⟨#[]⟩, .int .i64 0, .int .i64 0, .int .i64 0] 31)).alloc (.cells #[.string ⟨#[117, 107]⟩, .string ⟨#[100, 101]⟩] 9)) := bR.alloc bR.size _
            have BS := Lib.hid bS
            have BSR := Lib.hid bSR
            have BR := Lib.hid bR
            have BRS := Lib.hid bRS
            clear bS bSR bR bRS hdr
            refine' AnyTill.two (i := 0) (k := 24) (o := _) (o' := _) (by kernel_rfl) ?zb1a ?zb1b (fun K' hK => ?zb1x) (fun K' hK => ?zb1y)
            case zb1a => (simp only [List.getElem?_toArray, List.getElem?_cons_zero]; rfl)
            case zb1b => (simp only [List.getElem?_toArray, List.getElem?_cons_succ, List.getElem?_cons_zero]; rfl)
            case zb1x =>
              go_simp
              refine hK.out _ _ (.inr (SC.out _ BS.out)) ?_
              clear hK K'
              try simp only [Act.put, List.setIfInBounds_toArray, List.set_cons_zero, List.set_cons_succ]
              refine AnyTill.take (i := 3) (v := ?_) (by simp only [List.getElem?_toArray, List.getElem?_cons_succ, List.getElem?_cons_zero]; rfl) (by kernel_rfl) (by kernel_rfl) (by kernel_rfl) (by kernel_rfl) (fun _ _ _ h => h) (Or.inl ⟨by rfl, ?_⟩) (SC.out _ BS.out) ?_
              rotate_left
              · intro w' hw'; (try dsimp only at hw'); go_simp <;> with_reducible rfl
              try simp only [Act.put, List.setIfInBounds_toArray, List.set_cons_zero, List.set_cons_succ]
              refine' AnyTill.two (i := 4) (k := 24) (o := _) (o' := _) (by kernel_rfl) ?zb2a ?zb2b (fun K' hK => ?zb2x) (fun K' hK => ?zb2y)
              case zb2a => (simp only [List.getElem?_toArray, List.getElem?_cons_succ, List.getElem?_cons_zero]; rfl)
              case zb2b => (simp only [List.getElem?_toArray, List.getElem?_cons_succ, List.getElem?_cons_zero]; rfl)
              case zb2x =>
                go_simp
                refine hK.out _ _ (.inr (SC.out _ BS.out)) ?_
                clear hK K'
                try simp only [Act.put, List.setIfInBounds_toArray, List.set_cons_zero, List.set_cons_succ]
                refine AnyTill.take (i := 23) (v := ?_) (by simp only [List.getElem?_toArray, List.getElem?_cons_succ, List.getElem?_cons_zero]; rfl) (by kernel_rfl) (by kernel_rfl) (by kernel_rfl) (by kernel_rfl) (fun _ _ _ h => h) (Or.inl ⟨by rfl, ?_⟩) (SC.out _ BS.out) ?_
                rotate_left
                · intro w' hw'; (try dsimp only at hw'); go_simp <;> with_reducible rfl
                try simp only [Act.put, List.setIfInBounds_toArray, List.set_cons_zero, List.set_cons_succ]
                refine' AnyTill.one (i := 24) (o := _) (by kernel_rfl) ?zb3h (fun K' hK => ?zb3k)
                case zb3h => (simp only [List.getElem?_toArray, List.getElem?_cons_succ, List.getElem?_cons_zero]; rfl)
                go_simp
                refine hK.out _ _ (.inr (SC.out _ BSR.out)) ?_
                clear hK K'
                try simp only [Act.put, List.setIfInBounds_toArray, List.set_cons_zero, List.set_cons_succ]
                refine' AnyTill.one (i := 25) (o := _) (by kernel_rfl) ?zb4h (fun K' hK => ?zb4k)
                case zb4h => (simp only [List.getElem?_toArray, List.getElem?_cons_succ, List.getElem?_cons_zero]; rfl)
                go_simp
                refine hK.out _ _ (.inl rfl) ?_
                clear hK K'
                try simp only [Act.put, List.setIfInBounds_toArray, List.set_cons_zero, List.set_cons_succ]
                refine AnyTill.done (by kernel_rfl) ?_ _
                refine NoPanic.normal ?_
                go_wp2
                go_meet
                exact ⟨_, rfl, rfl, by rw [HU.out]; exact rec_sr wr _ ⟨⟨#[100, 101]⟩, y % 6, r % 1000001, p % 8⟩ _⟩
              case zb2y =>
                go_simp
                refine hK.out _ _ (.inr (SC.out _ BSR.out)) ?_
                clear hK K'
                try simp only [Act.put, List.setIfInBounds_toArray, List.set_cons_zero, List.set_cons_succ]
                refine' AnyTill.one (i := 4) (o := _) (by kernel_rfl) ?zb5h (fun K' hK => ?zb5k)
                case zb5h => (simp only [List.getElem?_toArray, List.getElem?_cons_succ, List.getElem?_cons_zero]; rfl)
                go_simp
                refine hK.out _ _ (.inr (SC.out _ BSR.out)) ?_
                clear hK K'
                try simp only [Act.put, List.setIfInBounds_toArray, List.set_cons_zero, List.set_cons_succ]
                refine' AnyTill.one (i := 23) (o := _) (by kernel_rfl) ?zb6h (fun K' hK => ?zb6k)
                case zb6h => (simp only [List.getElem?_toArray, List.getElem?_cons_succ, List.getElem?_cons_zero]; rfl)
                go_simp
                refine hK.out _ _ (.inr (SC.out _ BSR.out)) ?_
                clear hK K'
                try simp only [Act.put, List.setIfInBounds_toArray, List.set_cons_zero, List.set_cons_succ]
                refine' AnyTill.one (i := 25) (o := _) (by kernel_rfl) ?zb7h (fun K' hK => ?zb7k)
                case zb7h => (simp only [List.getElem?_toArray, List.getElem?_cons_succ, List.getElem?_cons_zero]; rfl)
                go_simp
                refine hK.out _ _ (.inl rfl) ?_
                clear hK K'
                try simp only [Act.put, List.setIfInBounds_toArray, List.set_cons_zero, List.set_cons_succ]
                refine AnyTill.done (by kernel_rfl) ?_ _
                refine NoPanic.normal ?_
                go_wp2
                go_meet
                exact ⟨_, rfl, rfl, by rw [HU.out]; exact rec_sr wr _ ⟨⟨#[100, 101]⟩, y % 6, r % 1000001, p % 8⟩ _⟩
            case zb1y =>
              go_simp
              refine hK.out _ _ (.inr (SC.out _ BR.out)) ?_
              clear hK K'
              try simp only [Act.put, List.setIfInBounds_toArray, List.set_cons_zero, List.set_cons_succ]
              refine' AnyTill.one (i := 0) (o := _) (by kernel_rfl) ?zb8h (fun K' hK => ?zb8k)
              case zb8h => (simp only [List.getElem?_toArray, List.getElem?_cons_zero]; rfl)
              go_simp
              refine hK.out _ _ (.inr (SC.out _ BRS.out)) ?_
              clear hK K'
              try simp only [Act.put, List.setIfInBounds_toArray, List.set_cons_zero, List.set_cons_succ]
              refine' AnyTill.one (i := 3) (o := _) (by kernel_rfl) ?zb9h (fun K' hK => ?zb9k)
              case zb9h => (simp only [List.getElem?_toArray, List.getElem?_cons_succ, List.getElem?_cons_zero]; rfl)
              go_simp
              refine hK.out _ _ (.inr (SC.out _ BRS.out)) ?_
              clear hK K'
              try simp only [Act.put, List.setIfInBounds_toArray, List.set_cons_zero, List.set_cons_succ]
              refine' AnyTill.one (i := 4) (o := _) (by kernel_rfl) ?zb10h (fun K' hK => ?zb10k)
              case zb10h => (simp only [List.getElem?_toArray, List.getElem?_cons_succ, List.getElem?_cons_zero]; rfl)
              go_simp
              refine hK.out _ _ (.inr (SC.out _ BRS.out)) ?_
              clear hK K'
              try simp only [Act.put, List.setIfInBounds_toArray, List.set_cons_zero, List.set_cons_succ]
              refine' AnyTill.one (i := 23) (o := _) (by kernel_rfl) ?zb11h (fun K' hK => ?zb11k)
              case zb11h => (simp only [List.getElem?_toArray, List.getElem?_cons_succ, List.getElem?_cons_zero]; rfl)
              go_simp
              refine hK.out _ _ (.inr (SC.out _ BRS.out)) ?_
              clear hK K'
              try simp only [Act.put, List.setIfInBounds_toArray, List.set_cons_zero, List.set_cons_succ]
              refine' AnyTill.one (i := 25) (o := _) (by kernel_rfl) ?zb12h (fun K' hK => ?zb12k)
              case zb12h => (simp only [List.getElem?_toArray, List.getElem?_cons_succ, List.getElem?_cons_zero]; rfl)
              go_simp
              refine hK.out _ _ (.inl rfl) ?_
              clear hK K'
              try simp only [Act.put, List.setIfInBounds_toArray, List.set_cons_zero, List.set_cons_succ]
              refine AnyTill.done (by kernel_rfl) ?_ _
              refine NoPanic.normal ?_
              go_wp2
              go_meet
              exact ⟨_, rfl, rfl, by rw [HU.out]; exact rec_rs wr _ ⟨⟨#[100, 101]⟩, y % 6, r % 1000001, p % 8⟩ _⟩
        case rest =>
          obtain ⟨rb, rfl, rfl, hrec⟩ := hcut
          obtain ⟨J, hJ⟩ : ∃ J, ud k = J := ⟨_, rfl⟩
          obtain ⟨Y, hY⟩ : ∃ Y, y % 6 = Y := ⟨_, rfl⟩
          obtain ⟨Z, hZ⟩ : ∃ Z, r % 1000001 = Z := ⟨_, rfl⟩
          obtain ⟨P, hP⟩ : ∃ P, p % 8 = P := ⟨_, rfl⟩
          rw [hJ, hY, hZ, hP] at hrec
          obtain ⟨r1, r2, r3, r4⟩ := hrec
          have hO : O rb ≠ 1 := by rw [N1.out.fin.2 rb r1]; decide
          have k0 := r3 0 _ rfl
          have k1 := r3 1 _ rfl
          have k2 := r3 2 _ rfl
          have k3 := r3 3 _ rfl
          replace N1 := Lib.hid (N1.out.below r4)
          replace N2 := Lib.hid (N2.out.below r4)
          replace HV := Lib.hid (HV.out.below r4)
          clear r1 r3 r4 ck1 ck2 ck3 hb1 hJ hY hZ hP
          go_wp2_with fail
          refine (nadd_is N1.out (by decide) ⟨J, Y, Z, P⟩).mono ?_
          rintro e w5 ⟨q5, b5, m5, S5, O5, rfl, hq5, n5, s5, _, hc5⟩
          have z0 := cell_step s5 r2 hO k0
          have z1 := cell_step s5 r2 hO k1
          have z2 := cell_step s5 r2 hO k2
          have z3 := cell_step s5 r2 hO k3
          replace N1 := Lib.hid n5
          replace N2 := Lib.hid (N2.out.step s5 (by decide) (by decide))
          replace HV := Lib.hid (HV.out.step s5 (by decide))
          clear n5 s5 k0 k1 k2 k3 r2 hO
          cases b5
          · have hq : m5 = n ∧ S5 = R := by
              rcases hc5 with ⟨_, h⟩ | ⟨h, _⟩
              · exact h
              · cases h
            obtain ⟨rfl, rfl⟩ := hq
            clear hc5
            go_wp2
            go_roundg (12 - (k + 1))
            case measure => have := HGK.out; omega
            case rel => exact ⟨k + 1, _, _, O5, by omega, rfl, by go_num, N1.out, N2.out, HV.out⟩
          · have hq : m5 = n + 1 ∧ S5 = pushT R n ⟨J, Y, Z, P⟩ := by
              rcases hc5 with ⟨h, _⟩ | ⟨_, h⟩
              · cases h
              · exact h
            obtain ⟨rfl, rfl⟩ := hq
            clear hc5
            have hn24 : n ≤ 24 := by have := N1.out.inv.le; omega
            have hz := N1.out.low.size
            have hsb : w.heap.size < w5.heap.size := by
              obtain ⟨v, s⟩ := N1.out.st
              exact s.hd.lt
            go_wp2_with (at_builtin; (refine wpList_push_r rfl (.tmp 75) (.tmp 77) rfl row_type hi hz0 hz1 hz2 (by decide) rfl (by decide) re_len re_one w5 w.heap.size n w5.heap.size _ R ⟨J, Y, Z, P⟩ rfl rfl (rec_lit w5 (re ⟨J, Y, Z, P⟩) 31 _ rfl) (World.ownsRow.alloc HV.out.own _) (by omega) ((Below.refl _ _).alloc hz _) (by simp; omega) _ rfl ?_; intro b2 c3 w6 ho2 hb2 hg2 hat2; obtain ⟨p1, p2⟩ := rowt_pushed HV.out N1.out.fin hsb ((Below.refl _ _).alloc (Nat.le_refl _) _) hg2 ho2 hat2 (by simp); have P1 := Lib.hid p1; have P2 := Lib.hid p2; clear ho2 hb2 hg2 hat2 p1 p2))
            go_roundg (12 - (k + 1))
            case measure => have := HGK.out; omega
            case rel => exact ⟨k + 1, _, _, _, by omega, rfl, by go_num, N1.out.step P2.out (by decide) (by decide), N2.out.step P2.out (by decide) (by decide), P1.out⟩
      · rcases (show ¬ k < len0 ∨ (k < len0 ∧ ¬ k < 12) by omega) with hq | ⟨hq1, hq⟩
        all_goals
          clear hlt
          go_wp2
          go_meet
          exact ⟨n, R, O, N1.out, N2.out, HV.out⟩
  case rest =>
    obtain ⟨n, R, O, hn1, hn2, hv⟩ := hcut
    have N1 := Lib.hid hn1
    have N2 := Lib.hid (hn2.zero (bwd R n))
    have HV := Lib.hid hv
    obtain ⟨A, c, rfl, h1, h2, _⟩ := hv.form
    have IV := Lib.hid hn1.inv
    have hn24 := hn1.inv.le
    clear hn1 hn2 hv NA NB
    go_wp2
    go_loopg [81] n (fun gh i wr => ∃ (k : Nat) (O : Nat → Nat), k ≤ n ∧ gh = n - k ∧ i = .int .i64 k ∧ NowT 31 w wr O 1 w.heap.size n R ∧ NowT 31 w wr O 2 wa.heap.size k (bwd R n) ∧ RowT wr O w.heap.size 5 w.heap.size 31 4 (.slice A n c) n (rl re R n))
    case atStart => exact ⟨0, _, by omega, rfl, rfl, N1.out, N2.out, HV.out⟩
    case round =>
      obtain ⟨k, O5, hk, hgk, rfl, hn1, hn2, hv⟩ := hrel
      have HGK := Lib.hid hgk
      replace N1 := Lib.hid hn1
      replace N2 := Lib.hid hn2
      replace HV := Lib.hid hv
      have HAT : Hid (AtR re 4 wr A n R) := by
        have ho : OwnR re 4 wr 31 w.heap.size (.slice A n c) n R := hv.own
        obtain ⟨A', c', e', _, _, _, h⟩ := ho.at re_len
        injection e' with e1 _ e3
        subst e1 e3
        exact Lib.hid h
      clear hgk hn1 hn2 hv
      by_cases hlt : k < n
      · obtain ⟨n1, hn1⟩ : ∃ n1, n - 1 = n1 := ⟨_, rfl⟩
        obtain ⟨m, hm⟩ : ∃ m, n1 - k = m := ⟨_, rfl⟩
        have ew1 : IntKind.i64.wrap ((n : Int) - 1) = (n1 : Int) := (IntWalk.i64_in _ (by omega)).trans (by omega)
        have ew2 : IntKind.i64.wrap ((n1 : Int) - (k : Int)) = (m : Int) := (IntWalk.i64_in _ (by omega)).trans (by omega)
        have hmn : m < n := by omega
        have HM : Hid (n - 1 - k = m) := Lib.hid (by omega)
        have m0 : (0 : Int) ≤ (m : Int) := by omega
        have m1 : (m : Int) < (n : Int) := by omega
        have ER := Lib.hid (bwd_err IV.out hlt)
        rw [HM.out] at ER
        obtain ⟨b, off, rfl, hb, c0, c1, c2, c3⟩ := HAT.out.four hmn
        have BA := (Below.refl wr.heap.size wr).alloc (Nat.le_refl _) (.cells #[.string (R m).j, .int .i64 (R m).y, .int .i64 (R m).r, .int .i64 (R m).p] 31)
        replace N1 := Lib.hid (N1.out.below BA)
        replace N2 := Lib.hid (N2.out.below BA)
        replace HV := Lib.hid (HV.out.below BA)
        clear hn1 hm BA HAT
        go_wp2_with fail
        refine (nadd_ok N2.out (by decide) (R m) ER.out).mono ?_
        rintro e w5 ⟨rfl, O6, n5, s5⟩
        rw [show pushT (bwd R n) k (R m) = bwd R n by rw [← HM.out]; exact bwd_push R n k] at n5
        replace N1 := Lib.hid (N1.out.step s5 (by decide) (by decide))
        replace N2 := Lib.hid n5
        replace HV := Lib.hid (HV.out.step s5 (by decide))
        clear n5 s5 ER
        go_wp2
        go_roundg (n - (k + 1))
        case measure => have := HGK.out; omega
        case rel => exact ⟨k + 1, O6, by omega, rfl, by go_num, N1.out, N2.out, HV.out⟩
      · obtain rfl : k = n := by omega
        clear hlt hk HV
        go_wp2_with fail
        refine (within_some _ _ _ (by omega) (by omega)).mono ?_
        rintro e w' ⟨P, p1, p2, rfl, rfl⟩
        go_wp2_with fail
        refine (within_some _ _ _ (by omega) (by omega)).mono ?_
        rintro e w' ⟨Y, y1, y2, rfl, rfl⟩
        obtain ⟨q, ok, hkn⟩ := known_any R k ⟨#[117, 107]⟩ Y P
        have KN := Lib.hid hkn
        have C1 := Lib.hid (nrate N1.out ⟨#[117, 107]⟩ Y P q ok hkn)
        have C2 := Lib.hid fun w1 (h : Below wr.heap.size wr w1) => nrate (N2.out.below h) ⟨#[117, 107]⟩ Y P q ok (bwd_known hkn)
        have L1 := Lib.hid N1.out.low
        clear hkn N1 N2
        go_wp2_with fail
        refine (C1.out).mono ?_
        rintro e w6 ⟨rfl, hb6⟩
        have C3 := Lib.hid (C2.out w6 hb6)
        have B6 := Lib.hid hb6
        clear hb6 C1 C2
        go_wp2_with fail
        refine (C3.out).mono ?_
        rintro e w7 ⟨rfl, hb7⟩
        have B7 := Lib.hid (B6.out.trans (hb7.mono B6.out.size))
        clear hb7 C3 B6
        replace HAT := Lib.hid (HAT.out.below B7.out)
        have L7 := Lib.hid (L1.out.trans (B7.out.mono L1.out.size))
        clear B7 L1
        have NR := Lib.hid (rec_lit w7 (re ⟨⟨#[]⟩, -1, 0, 0⟩) 31 w7.heap.size rfl)
        have NF := Lib.hid fun i => frozen_of_row _ w7.heap.size i _ _ (heap_alloc_new w7 (.cells #[.string ⟨#[]⟩, .int .i64 (-1), .int .i64 0, .int .i64 0] 31))
        go_wp2
        go_loopg [19, 125] k (fun gh f i wr => ∃ (m : Nat) (fb : Bool) (X : Rt), m ≤ k ∧ gh = k - m ∧ i = .int .i64 m ∧ f = .bool fb ∧ EBest w7 wr R m ⟨#[117, 107]⟩ Y P fb X)
        case atStart =>
          refine ⟨0, false, ⟨⟨#[]⟩, -1, 0, 0⟩, Nat.zero_le _, rfl, rfl, rfl, .inr ⟨rfl, BestAt.zero _ _ _ _, rfl⟩, NR.out, NF.out, ?_, ?_⟩
          · simp
          · exact (Below.refl _ _).alloc (Nat.le_refl _) _
        case round =>
          obtain ⟨m, fb, X, hm, hgm, rfl, rfl, hbest⟩ := hrel
          have HGM := Lib.hid hgm
          have HB := Lib.hid hbest
          have b0 := hbest.cell 0 _ rfl
          have b1 := hbest.cell 1 _ rfl
          have b2 := hbest.cell 2 _ rfl
          have b3 := hbest.cell 3 _ rfl
          have bl := hbest.lt
          have f0 := hbest.frz 0
          have f1 := hbest.frz 1
          have f2 := hbest.frz 2
          have f3 := hbest.frz 3
          clear hgm hbest NR NF
          have bne : w7.heap.size ≠ wr.heap.size := by omega
          by_cases hlm : m < k
          · obtain ⟨b, off, rfl, hb, c0, c1, c2, c3⟩ := (HAT.out.below HB.out.low).four hlm
            by_cases hcc : Mt (R m) ⟨#[117, 107]⟩ Y P
            rotate_left
            · have hM := Lib.hid hcc
              rcases (show (((R m).j.toList == [117, 107]) = false ∧ ¬ (R m).j.toList = [117, 107]) ∨ ((R m).j.toList = [117, 107] ∧ ¬ (R m).y ≤ Y) ∨ ((R m).j.toList = [117, 107] ∧ (R m).y ≤ Y ∧ ¬ (R m).p ≤ P) from by
                  by_cases q1 : (R m).j = ⟨#[117, 107]⟩
                  · have q1' := uk_yes q1
                    by_cases q2 : (R m).y ≤ Y
                    · by_cases q3 : (R m).p ≤ P
                      · exact absurd ⟨q1, q2, q3⟩ hM.out
                      · exact .inr (.inr ⟨q1', q2, q3⟩)
                    · exact .inr (.inl ⟨q1', q2⟩)
                  · exact .inl (uk_not q1)) with ⟨q1, q0⟩ | ⟨q1, q2⟩ | ⟨q1, q2, q3⟩
              all_goals
                clear hcc
                go_wp2
                go_roundg (k - (m + 1))
                case measure => have := HGM.out; omega
                case rel => exact ⟨m + 1, fb, X, by omega, rfl, by go_num, rfl, HB.out.skip hM.out ((Below.refl _ _).alloc (Nat.le_refl _) _)⟩
            · have hM := Lib.hid hcc
              obtain ⟨q1, q2, q3⟩ := hM.out
              replace q1 := uk_yes q1
              clear hcc
              cases fb
              · go_wp2
                go_roundg (k - (m + 1))
                case measure => have := HGM.out; omega
                case rel => exact ⟨m + 1, true, R m, by omega, rfl, by go_num, rfl, (HB.out.take hM.out (fun e => Bool.noConfusion e)).over ((Below.refl _ _).alloc (Nat.le_refl _) _)⟩
              · rcases (show X.y < (R m).y ∨ (¬ X.y < (R m).y ∧ ¬ (R m).y = X.y) ∨ (¬ X.y < (R m).y ∧ (R m).y = X.y ∧ X.p < (R m).p) ∨ (¬ X.y < (R m).y ∧ (R m).y = X.y ∧ ¬ X.p < (R m).p) by omega) with z1 | ⟨z1, z2⟩ | ⟨z1, z2, z3⟩ | ⟨z1, z2, z3⟩
                · have L : Hid (Sup (R m) X) := Lib.hid (.inl z1)
                  go_wp2
                  go_roundg (k - (m + 1))
                  case measure => have := HGM.out; omega
                  case rel => exact ⟨m + 1, true, R m, by omega, rfl, by go_num, rfl, (HB.out.take hM.out (fun _ => L.out)).over ((Below.refl _ _).alloc (Nat.le_refl _) _)⟩
                · have L : Hid (¬ Sup (R m) X) := Lib.hid (by unfold Sup; omega)
                  have y2 : ((R m).y == X.y) = false := by simpa using z2
                  clear z2
                  go_wp2
                  go_roundg (k - (m + 1))
                  case measure => have := HGM.out; omega
                  case rel => exact ⟨m + 1, true, X, by omega, rfl, by go_num, rfl, HB.out.stay L.out ((Below.refl _ _).alloc (Nat.le_refl _) _)⟩
                · have L : Hid (Sup (R m) X) := Lib.hid (.inr ⟨z2, z3⟩)
                  have y2 : ((R m).y == X.y) = true := by simpa using z2
                  clear z2
                  go_wp2
                  go_roundg (k - (m + 1))
                  case measure => have := HGM.out; omega
                  case rel => exact ⟨m + 1, true, R m, by omega, rfl, by go_num, rfl, (HB.out.take hM.out (fun _ => L.out)).over ((Below.refl _ _).alloc (Nat.le_refl _) _)⟩
                · have L : Hid (¬ Sup (R m) X) := Lib.hid (by unfold Sup; omega)
                  have y2 : ((R m).y == X.y) = true := by simpa using z2
                  clear z2
                  go_wp2
                  go_roundg (k - (m + 1))
                  case measure => have := HGM.out; omega
                  case rel => exact ⟨m + 1, true, X, by omega, rfl, by go_num, rfl, HB.out.stay L.out ((Below.refl _ _).alloc (Nat.le_refl _) _)⟩
          · obtain rfl : m = k := by omega
            clear hlm hm
            have LL := Lib.hid (L7.out.trans (HB.out.low.mono L7.out.size))
            have e1 : (q == q) = true := by simp
            rcases (show (fb = true ∧ ok = true ∧ q = X.r) ∨ (fb = false ∧ ok = false) from by
                rcases HB.out.best with ⟨e, i, hi, rfl⟩ | ⟨e, hi, _⟩
                · obtain ⟨h1, h2⟩ := KN.out.uniq IV.out.uniq hi.some.2
                  exact .inl ⟨e, h2, h1⟩
                · obtain ⟨h1, h2⟩ := KN.out.uniq IV.out.uniq hi.none
                  exact .inr ⟨e, h2⟩) with ⟨rfl, rfl, rfl⟩ | ⟨rfl, rfl⟩
            all_goals
              clear KN
              go_wp2_with fail
              refine (wakes9_any _).mono ?_
              rintro e w8 ⟨rfl, hb⟩
              have L8 := Lib.hid (LL.out.trans (hb.mono LL.out.size))
              clear hb
              go_wp2
              go_ret
              exact ⟨rfl, L8.out⟩
end Go.Proofs.Ytllojkcobcnjmaa
