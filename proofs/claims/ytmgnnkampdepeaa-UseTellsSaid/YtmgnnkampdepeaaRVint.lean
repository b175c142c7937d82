/- The document's own losses: what is left, a copy: a contract for each; its rows. -/
import Derived.Test.YtmgnnkampdepeaaRows
import Derived.Test.YtmgnnkampdepeaaRec
import Derived.Test.YtmgnnkampdepeaaVnMath2
import Derived.Test.YtmgnnkampdepeaaRef9
import Derived.WalkKit
import Derived.WalkSpells
import Derived.WalkLawsBesides
import Derived.Lib.Hide
import Derived.IntWalk
import Derived.Deep.LoopGhost
namespace Go.Proofs.Ytmgnnkampdepeaa
open Go.RowKit

/-- the three cells of a loss -/
def ve (x : Bk) : List Value := [.int .i64 x.y, .int .i64 x.c, .int .i64 x.a]
theorem ve_len (x : Bk) : (ve x).length = 3 := rfl
theorem ve_one (x : Bk) : ∀ u ∈ ve x, u.oneCell' = true := by
  intro u hu
  unfold ve at hu
  simp only [List.mem_cons, List.not_mem_nil, or_false] at hu
  rcases hu with rfl | rfl | rfl <;> rfl
theorem vn_info : (Try.prog.info? 31).map (fun i => (i.zero, i.size, i.bytes)) = some (some (.agg #[.int .i64 0, .int .i64 0, .int .i64 0]), 3, 24) := by kernel_rfl
theorem vn_type : Try.prog.underlying 23 = some (.slice 31) := Try.underlying23
/-- losses behind block sb, whose mark is t: rows of them -/
structure LV (w : World) (O : Nat → Nat) (base t sb : Nat) (v : Value) (n : Nat) (g : Nat → Bk) : Prop where
  hd : Head w O t sb [v]
  row : RowT w O base t sb 31 3 v n (rl ve g n)
section
variable {w w1 : World} {O O1 : Nat → Nat} {base t t' sb n : Nat} {v : Value} {g : Nat → Bk} {S : Int → Int → Int}
theorem LV.below (s : LV w O base t sb v n g) (k : Below w.heap.size w w1) : LV w1 O base t sb v n g := ⟨s.hd.below k, s.row.below k⟩
theorem LV.step (s : LV w O base t sb v n g) (k : Step base O t' w O1 w1) (h : t ≠ t') : LV w1 O1 base t sb v n g := ⟨s.hd.step k h, s.row.step k h⟩
theorem LV.own (s : LV w O base t sb v n g) : OwnR ve 3 w 31 base v n g := s.row.own
theorem LV.new (fn : Fin0 base O w) (hb : base ≤ w.heap.size) (T : TypeId) (g : Nat → Bk) :
    LV (w.alloc (.cells #[.slice none 0 0] T)) (mark O t w.heap.size) base t w.heap.size (.slice none 0 0) 0 g ∧ ∀ t', Step base O t' w (mark O t w.heap.size) (w.alloc (.cells #[.slice none 0 0] T)) :=
  ⟨⟨Head.new w O t _ T, RowT.nil _ _ _ _ _ _ _⟩, fun t' => Step.made fn hb _ t'⟩
theorem LV.at (s : LV w O base t sb v n g) : ∃ A c, v = .slice A n c ∧ n ≤ c ∧ c ≤ maxLen ∧ (A = none → n = 0 ∧ c = 0) ∧ AtR ve 3 w A n g := s.own.at ve_len
theorem AtR.threeV {A : Option Addr} (r : AtR ve 3 w A n g) {k : Nat} (hk : k < n) : ∃ b off, A = Option.some ⟨b, off, none⟩ ∧ b < w.heap.size ∧ w.cell? ⟨b, off + k * 3, none⟩ = Option.some (.int .i64 (g k).y) ∧ w.cell? ⟨b, off + k * 3 + 1, none⟩ = Option.some (.int .i64 (g k).c) ∧ w.cell? ⟨b, off + k * 3 + 2, none⟩ = Option.some (.int .i64 (g k).a) := by
  obtain ⟨b, off, e, hb, hc⟩ := r.some (by omega)
  exact ⟨b, off, e, hb, hc k hk 0 _ rfl, hc k hk 1 _ rfl, hc k hk 2 _ rfl⟩
theorem rlleft (s : LV w O base t sb v n g) (hn : n ≤ 1000) (hg : ∀ j, j < n → Mon (g j).a) :
    Calls Try.prog 25 #[ptr sb] w fun e w' => e = .returned (.int .i64 (btot g n)) ∧ Below w.heap.size w w' := by
  have c0 := s.hd.c0
  obtain ⟨A, cc, rfl, hc, hm, _, ha⟩ := s.at
  have HA := Lib.hid ha
  have HG := Lib.hid hg
  clear s ha hg
  go_enter Try.func25, Try.ntmps25
  go_wp2
  go_loopg [3, 11] n (fun gh x i wr => ∃ k : Nat, k ≤ n ∧ gh = n - k ∧ i = .int .i64 k ∧ x = .int .i64 (btot g k) ∧ Below w.heap.size w wr)
  case atStart => exact ⟨0, Nat.zero_le _, rfl, rfl, rfl, Below.refl _ _⟩
  case round =>
    obtain ⟨k, hk, hgk, rfl, rfl, hbw⟩ := hrel
    have HGK := Lib.hid hgk
    have HW := Lib.hid hbw
    have tb := tot_bd (fun j => (g j).a) k fun j hj => HG.out j (by omega)
    obtain ⟨T, hT⟩ : ∃ T, btot g k = T := ⟨_, rfl⟩
    rw [show tot (fun j => (g j).a) k = T from hT] at tb
    rw [hT]
    have HT := Lib.hid hT
    clear hgk hbw hT
    by_cases hlt : k < n
    · obtain ⟨b, off, rfl, hb, c0, c1, c2⟩ := (HA.out.below HW.out).threeV hlt
      have hx := HG.out k hlt
      obtain ⟨x, hx'⟩ : ∃ x, (g k).a = x := ⟨_, rfl⟩
      rw [hx'] at c2 hx
      have HX := Lib.hid hx'
      clear hx'
      unfold Mon at hx
      obtain ⟨x1, x2⟩ := hx
      obtain ⟨t1, t2⟩ := tb
      have ew : IntKind.i64.wrap (T + x) = T + x := IntWalk.i64_in _ (by omega)
      clear t1 t2
      go_wp2
      go_roundg (n - (k + 1))
      case measure => have := HGK.out; omega
      case rel => exact ⟨k + 1, by omega, rfl, by go_num, by rw [← HT.out, ← HX.out]; rfl, HW.out.alloc HW.out.size _⟩
    · obtain rfl : k = n := by omega
      clear hlt tb
      go_wp2
      go_ret
      exact ⟨congrArg (fun x => Ending.returned (.int .i64 x)) HT.out.symm, HW.out⟩
/-- rows of the call's own become the losses' -/
theorem LV.takes (s : LV w O base t sb v n g) (fn : Fin0 base O w) (hb : base ≤ w.heap.size) (b : Below w.heap.size w w1) {v' : Value} {m : Nat} {h : Nat → Bk} (o : OwnR ve 3 w1 31 w.heap.size v' m h) :
    ∃ O', LV (w1.setCell ⟨sb, 0, none⟩ v') O' base t sb v' m h ∧ Step base O t w O' (w1.setCell ⟨sb, 0, none⟩ v') := by
  obtain ⟨O1, m1, st1⟩ := fresh_marked fn hb b o t
  have hd1 : Head w1 O1 t sb [v] := (s.hd.below b).block (O1 := O1) rfl (Nat.le_refl _) ((st1 t).ext sb s.hd.lt)
  have lt := s.hd.lt
  have k2 := Step.set (t := t) (st1 t).fin 0 v' hd1.tag
  refine ⟨O1, ⟨hd1.set 0 v' (by simp), ⟨?_, fun x hx => ⟨(m1 x hx).1, ?_⟩⟩⟩, (st1 t).trans k2⟩
  · refine own_blocks (own_mono o hb) fun x hx => Below.heap_setCell _ _ _ _ ?_
    have := (World.ownsRow.lt o x hx).1
    show x ≠ sb
    omega
  · have := (World.ownsRow.lt o x hx).1
    omega
end
end Go.Proofs.Ytmgnnkampdepeaa
