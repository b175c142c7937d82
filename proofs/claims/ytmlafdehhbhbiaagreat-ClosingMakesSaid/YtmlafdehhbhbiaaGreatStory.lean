/- The argument of law 19's great statements, opened: a story of closes: whole numbers, rows of whole numbers, rows of whole numbers. -/
import Derived.Test.YtmlafdehhbhbiaaGreatRows
import Derived.Test.YtmlafdehhbhbiaaGreatM1
import Derived.Deep.Slices
import Derived.ChangeSlices
import Derived.ProofKit
import Derived.ChangeSame
namespace Go.Proofs.YtmlafdehhbhbiaaGreat
open Go.RowKit Go.ChangeShapes Go.WideShapes Go.Deep
def Rows2 (w : World) (A : Option Addr) (n : Nat) : Prop :=
 n = 0 ∨ ∃ b off, A = some ⟨b, off, none⟩ ∧ b < w.heap.size ∧ ∀ k, k < n → ∃ A' m c zs, w.cell? ⟨b, off + k, none⟩ = some (.slice A' m c) ∧ IsRow .i64 w A' m c zs
theorem Rows2.some {w : World} {A : Option Addr} {n k : Nat} (h : Rows2 w A n) (hk : k < n) : ∃ b off A' m c zs, A = some ⟨b, off, none⟩ ∧ b < w.heap.size ∧ w.cell? ⟨b, off + k, none⟩ = some (.slice A' m c) ∧ IsRow .i64 w A' m c zs := by
 rcases h with h | ⟨b, off, e, hb, hc⟩
 · omega
 · obtain ⟨A', m, c, zs, h1, h2⟩ := hc k hk
   exact ⟨b, off, A', m, c, zs, e, hb, h1, h2⟩
theorem Rows2.below {w w1 : World} {A : Option Addr} {n : Nat} (h : Rows2 w A n) (kb : Below w.heap.size w w1) : Rows2 w1 A n := by
 rcases h with h | ⟨b, off, e, hb, hc⟩
 · exact .inl h
 · refine .inr ⟨b, off, e, Nat.lt_of_lt_of_le hb kb.size, fun k hk => ?_⟩
   obtain ⟨A', m, c, zs, h1, h2⟩ := hc k hk
   exact ⟨A', m, c, zs, cell_keep h1 kb, h2.below kb⟩
section
variable {H : Type} {enc : TypeId × Value → H} {w : World} {base : Nat} {held : Bool}
theorem row_open {fuel : Nat} {cs : List Value} {x : DataW H × List MemPlace} (h : DataW.trod enc Tryz.prog w base (fun _ => true) held fuel 33 cs = some x) : ∃ A n c zs, cs = [.slice A n c] ∧ IsRow .i64 w A n c zs := by
 rcases open_ints Tryz.underlying33 Tryz.underlying3 (by kernel_rfl) h with ⟨hcs, _⟩ | ⟨a, l, c, zs, hcs, _, hl, hm, hz, _, hcell, hwz⟩
 · exact ⟨none, 0, 0, [], hcs, .inl ⟨rfl, rfl, rfl, rfl⟩⟩
 · exact ⟨some a, l, c, zs, hcs, .inr ⟨_, rfl, hl, hm, by simpa using hz, hcell, hwz⟩⟩
set_option maxRecDepth 100000 in
theorem rows2_open {fuel : Nat} {cs : List Value} {x : DataW H × List MemPlace} (h : DataW.trod enc Tryz.prog w base (fun _ => true) held fuel 50 cs = some x) : ∃ A n c, cs = [.slice A n c] ∧ Rows2 w A n := by
 rcases open_slice1 Tryz.underlying50 (by kernel_rfl) h with ⟨e, _⟩ | ⟨a, len, cap, m, n', V, D, Pl, hcs, _, hl, hm, hmm, _, hi⟩
 · exact ⟨none, 0, 0, e, .inl rfl⟩
 · refine ⟨some a, len, cap, hcs, ?_⟩
   simp only [if_true] at hmm
   rcases Nat.eq_zero_or_pos len with h0 | h0
   · exact .inl h0
   obtain ⟨b, off, spot⟩ := a
   have hspot : spot = none := by
     obtain ⟨hc, _⟩ := hi 0 (by omega)
     simpa [Addr.add] using World.cell?_spot hc
   subst hspot
   refine .inr ⟨b, off, rfl, ?_, fun k hk => ?_⟩
   · obtain ⟨hc, _⟩ := hi 0 (by omega)
     rw [Go.WideShapes.add_plain] at hc
     exact World.block_lt_of_cell? w _ hc
   · obtain ⟨hc, ht⟩ := hi k (by omega)
     obtain ⟨A', m', c', zs, e, hr⟩ := row_open ht
     injection e with e _
     rw [Go.WideShapes.add_plain] at hc
     exact ⟨A', m', c', zs, by rw [hc, e], hr⟩
structure Story19 (w : World) (cs : List Value) (a0 : Option Addr) (n0 c0 : Nat) (zs : List Int) (a1 : Option Addr) (n1 c1 : Nat) (a2 : Option Addr) (n2 c2 : Nat) : Prop where
 cs : cs = [.slice a0 n0 c0, .slice a1 n1 c1, .slice a2 n2 c2]
 tab : IsRow .i64 w a0 n0 c0 zs
 ins : Rows2 w a1 n1
 mvs : Rows2 w a2 n2
set_option maxRecDepth 100000 in
theorem story_open {fuel : Nat} {cs : List Value} {x : DataW H × List MemPlace} (h : DataW.trod enc Tryz.prog w base (fun _ => true) held fuel 52 cs = some x) : ∃ a0 n0 c0 zs a1 n1 c1 a2 n2 c2, Story19 w cs a0 n0 c0 zs a1 n1 c1 a2 n2 c2 := by
 obtain ⟨xs, n2, _, _, hcl, hxl, hf⟩ := DataW.trod_struct Tryz.underlying52 h
 have hC : Tryz.prog.cellsOf 52 = 3 := by kernel_rfl
 rw [hC] at hcl
 match cs, hcl with
 | [v0, v1, v2], _ =>
   have hx : ∀ i : Nat, i < 3 → ∃ y, xs[i]? = some y := fun i hi => ⟨_, List.getElem?_eq_getElem (by rw [hxl]; exact hi)⟩
   have e1 : Tryz.prog.cellsOf 33 = 1 := by kernel_rfl
   have e2 : Tryz.prog.cellsOf 50 = 1 := by kernel_rfl
   obtain ⟨y0, hy0⟩ := hx 0 (by omega)
   have t0 : DataW.trod enc Tryz.prog w base (fun _ => true) held n2 33 (([v0, v1, v2].drop 0).take (Tryz.prog.cellsOf 33)) = xs[0]? := hf 0 _ rfl
   rw [e1, hy0] at t0
   obtain ⟨y1, hy1⟩ := hx 1 (by omega)
   have t1 : DataW.trod enc Tryz.prog w base (fun _ => true) held n2 50 (([v0, v1, v2].drop 1).take (Tryz.prog.cellsOf 50)) = xs[1]? := hf 1 _ rfl
   rw [e2, hy1] at t1
   obtain ⟨y2, hy2⟩ := hx 2 (by omega)
   have t2 : DataW.trod enc Tryz.prog w base (fun _ => true) held n2 50 (([v0, v1, v2].drop 2).take (Tryz.prog.cellsOf 50)) = xs[2]? := hf 2 _ rfl
   rw [e2, hy2] at t2
   obtain ⟨a0, n0, c0, zs, q0, r0⟩ := row_open t0
   obtain ⟨a1, n1, c1, q1, r1⟩ := rows2_open t1
   obtain ⟨a2, m2, c2, q2, r2⟩ := rows2_open t2
   injection q0 with q0 _
   injection q1 with q1 _
   injection q2 with q2 _
   exact ⟨a0, n0, c0, zs, a1, n1, c1, a2, m2, c2, by rw [q0, q1, q2], r0, r1, r2⟩
end
end Go.Proofs.YtmlafdehhbhbiaaGreat
