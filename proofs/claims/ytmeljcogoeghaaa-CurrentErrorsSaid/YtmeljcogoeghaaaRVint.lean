/- The document's own losses: what is left, a copy: a contract for each; its rows. -/
import Derived.Test.YtmeljcogoeghaaaRows
import Derived.Test.YtmeljcogoeghaaaRec
import Derived.Test.YtmeljcogoeghaaaVnMath2
import Derived.Test.YtmeljcogoeghaaaRef9
import Derived.WalkKit
import Derived.WalkSpells
import Derived.WalkLawsBesides
import Derived.Lib.Hide
import Derived.IntWalk
import Derived.Deep.LoopGhost
namespace Go.Proofs.Ytmeljcogoeghaaa
open Go.RowKit

/-- the three cells of a loss -/
def ve (x : Bk) : List Value := [.int .i64 x.y, .int .i64 x.c, .int .i64 x.a]
theorem ve_len (x : Bk) : (ve x).length = 3 := rfl
theorem ve_one (x : Bk) : ∀ u ∈ ve x, u.oneCell' = true := by
  intro u hu
  unfold ve at hu
  simp only [List.mem_cons, List.not_mem_nil, or_false] at hu
  rcases hu with rfl | rfl | rfl <;> rfl
theorem vn_info : (Try.prog.info? 35).map (fun i => (i.zero, i.size, i.bytes)) = some (some (.agg #[.int .i64 0, .int .i64 0, .int .i64 0]), 3, 24) := by kernel_rfl
theorem vn_type : Try.prog.underlying 32 = some (.slice 35) := Try.underlying32
/-- losses behind block sb, whose mark is t: rows of them -/
structure LV (w : World) (O : Nat → Nat) (base t sb : Nat) (v : Value) (n : Nat) (g : Nat → Bk) : Prop where
  hd : Head w O t sb [v]
  row : RowT w O base t sb 35 3 v n (rl ve g n)
section
variable {w w1 : World} {O O1 : Nat → Nat} {base t t' sb n : Nat} {v : Value} {g : Nat → Bk} {S : Int → Int → Int}
theorem LV.below (s : LV w O base t sb v n g) (k : Below w.heap.size w w1) : LV w1 O base t sb v n g := ⟨s.hd.below k, s.row.below k⟩
theorem LV.step (s : LV w O base t sb v n g) (k : Step base O t' w O1 w1) (h : t ≠ t') : LV w1 O1 base t sb v n g := ⟨s.hd.step k h, s.row.step k h⟩
theorem LV.own (s : LV w O base t sb v n g) : OwnR ve 3 w 35 base v n g := s.row.own
theorem LV.new (fn : Fin0 base O w) (hb : base ≤ w.heap.size) (T : TypeId) (g : Nat → Bk) :
    LV (w.alloc (.cells #[.slice none 0 0] T)) (mark O t w.heap.size) base t w.heap.size (.slice none 0 0) 0 g ∧ ∀ t', Step base O t' w (mark O t w.heap.size) (w.alloc (.cells #[.slice none 0 0] T)) :=
  ⟨⟨Head.new w O t _ T, RowT.nil _ _ _ _ _ _ _⟩, fun t' => Step.made fn hb _ t'⟩
theorem LV.at (s : LV w O base t sb v n g) : ∃ A c, v = .slice A n c ∧ n ≤ c ∧ c ≤ maxLen ∧ (A = none → n = 0 ∧ c = 0) ∧ AtR ve 3 w A n g := s.own.at ve_len
theorem AtR.threeV {A : Option Addr} (r : AtR ve 3 w A n g) {k : Nat} (hk : k < n) : ∃ b off, A = Option.some ⟨b, off, none⟩ ∧ b < w.heap.size ∧ w.cell? ⟨b, off + k * 3, none⟩ = Option.some (.int .i64 (g k).y) ∧ w.cell? ⟨b, off + k * 3 + 1, none⟩ = Option.some (.int .i64 (g k).c) ∧ w.cell? ⟨b, off + k * 3 + 2, none⟩ = Option.some (.int .i64 (g k).a) := by
  obtain ⟨b, off, e, hb, hc⟩ := r.some (by omega)
  exact ⟨b, off, e, hb, hc k hk 0 _ rfl, hc k hk 1 _ rfl, hc k hk 2 _ rfl⟩
theorem rlleft (s : LV w O base t sb v n g) (hn : n ≤ 1000) (hg : ∀ j, j < n → Mon (g j).a) :
    Calls Try.prog 61 #[ptr sb] w fun e w' => e = .returned (.int .i64 (btot g n)) ∧ Below w.heap.size w w' := by
  have c0 := s.hd.c0
  obtain ⟨A, cc, rfl, hc, hm, _, ha⟩ := s.at
  have HA := Lib.hid ha
  have HG := Lib.hid hg
  clear s ha hg
  go_enter Try.func61, Try.ntmps61
  go_wp2
  go_loopg [3, 11] n (fun gh x i wr => ∃ k : Nat, k ≤ n ∧ gh = n - k ∧ i = .int .i64 k ∧ x = .int .i64 (btot g k) ∧ Below w.heap.size w wr)
  case atStart => exact ⟨0, Nat.zero_le _, rfl, rfl, rfl, Below.refl _ _⟩
  case round =>
    obtain ⟨k, hk, hgk, rfl, rfl, hbw⟩ := hrel
    have HGK := Lib.hid hgk
    have HW := Lib.hid hbw
    have tb := tot_bd (fun j => (g j).a) k fun j hj => HG.out j (by omega)
    obtain ⟨T, hT⟩ : ∃ T, btot g k = T := ⟨_, rfl⟩
    rw [show tot (fun j => (g j).a) k = T from hT] at tb
    rw [hT]
    have HT := Lib.hid hT
    clear hgk hbw hT
    by_cases hlt : k < n
    · obtain ⟨b, off, rfl, hb, c0, c1, c2⟩ := (HA.out.below HW.out).threeV hlt
      have hx := HG.out k hlt
      obtain ⟨x, hx'⟩ : ∃ x, (g k).a = x := ⟨_, rfl⟩
      rw [hx'] at c2 hx
      have HX := Lib.hid hx'
      clear hx'
      unfold Mon at hx
      obtain ⟨x1, x2⟩ := hx
      obtain ⟨t1, t2⟩ := tb
      have ew : IntKind.i64.wrap (T + x) = T + x := IntWalk.i64_in _ (by omega)
      clear t1 t2
      go_wp2
      go_roundg (n - (k + 1))
      case measure => have := HGK.out; omega
      case rel => exact ⟨k + 1, by omega, rfl, by go_num, by rw [← HT.out, ← HX.out]; rfl, HW.out.alloc HW.out.size _⟩
    · obtain rfl : k = n := by omega
      clear hlt tb
      go_wp2
      go_ret
      exact ⟨congrArg (fun x => Ending.returned (.int .i64 x)) HT.out.symm, HW.out⟩
theorem rlcopy (s : LV w O base t sb v n g) (hn : n ≤ 1000) {base2 : Nat} {O2 : Nat → Nat} (fn : Fin0 base2 O2 w) (hb : base2 ≤ w.heap.size) (t' : Nat) :
    Calls Try.prog 43 #[ptr sb] w fun e w' => ∃ v' sb' O', e = .returned (ptr sb') ∧ LV w' O' base2 t' sb' v' n g ∧ w.heap.size ≤ sb' ∧ ∀ t2, Step base2 O2 t2 w O' w' := by
  obtain ⟨i0, hi, hz0, hz1, hz2⟩ := info_parts vn_info
  have c0 := s.hd.c0
  obtain ⟨A, cc, rfl, hc, hm, _⟩ := s.row.form
  have HS := Lib.hid s
  have HF := Lib.hid fn
  clear s fn
  go_enter Try.func43, Try.ntmps43
  go_wp2_with (at_builtin; (refine wpList_app_row rfl (.const (.slice none 0 0)) (.tmp 6) rfl vn_type hi hz0 hz1 hz2 rfl (by decide) w w.heap.size base 0 n cc _ _ [] _ rfl rfl (World.ownsRow_nil _ _ _ _) HS.out.row.own (rl_one ve_one) (by unfold maxLen; omega) (by omega) (Below.refl _ _) (Nat.le_refl _) ?_; intro v1 w5 ho1 hb1 hg1; rw [Nat.zero_add, List.nil_append] at ho1; obtain ⟨A5, c5, rfl, _, _, _⟩ := own_form ho1; have HO5 := Lib.hid ho1; have K4 := Lib.hid hb1; clear ho1 hb1 hg1))
  go_ret
  obtain ⟨O1, m1, st1⟩ := fresh_marked HF.out hb K4.out HO5.out t'
  have z5 : base2 ≤ w5.heap.size := Nat.le_trans hb K4.out.size
  refine ⟨_, w5.heap.size, mark O1 t' w5.heap.size, rfl, ⟨Head.new w5 O1 t' _ _, ⟨own_mono (World.ownsRow.alloc HO5.out _) hb, fun b hb => ?_⟩⟩, K4.out.size, fun t2 => (st1 t2).trans (Step.made (st1 t2).fin z5 _ t2)⟩
  have := m1 b hb
  exact ⟨(mark_ne _ _ (by omega)).trans this.1, by omega⟩
/-- rows of the call's own become the losses' -/
theorem LV.takes (s : LV w O base t sb v n g) (fn : Fin0 base O w) (hb : base ≤ w.heap.size) (b : Below w.heap.size w w1) {v' : Value} {m : Nat} {h : Nat → Bk} (o : OwnR ve 3 w1 35 w.heap.size v' m h) :
    ∃ O', LV (w1.setCell ⟨sb, 0, none⟩ v') O' base t sb v' m h ∧ Step base O t w O' (w1.setCell ⟨sb, 0, none⟩ v') := by
  obtain ⟨O1, m1, st1⟩ := fresh_marked fn hb b o t
  have hd1 : Head w1 O1 t sb [v] := (s.hd.below b).block (O1 := O1) rfl (Nat.le_refl _) ((st1 t).ext sb s.hd.lt)
  have lt := s.hd.lt
  have k2 := Step.set (t := t) (st1 t).fin 0 v' hd1.tag
  refine ⟨O1, ⟨hd1.set 0 v' (by simp), ⟨?_, fun x hx => ⟨(m1 x hx).1, ?_⟩⟩⟩, (st1 t).trans k2⟩
  · refine own_blocks (own_mono o hb) fun x hx => Below.heap_setCell _ _ _ _ ?_
    have := (World.ownsRow.lt o x hx).1
    show x ≠ sb
    omega
  · have := (World.ownsRow.lt o x hx).1
    omega
end
end Go.Proofs.Ytmeljcogoeghaaa
