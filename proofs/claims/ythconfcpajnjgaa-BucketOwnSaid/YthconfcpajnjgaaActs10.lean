/- The argument of law 10's statements, opened: things done with a register: six numbers each. -/
import Derived.Test.YthconfcpajnjgaaRows
import Derived.Test.YthconfcpajnjgaaObj
import Derived.Deep.Slices
import Derived.ProofKit
import Derived.ChangeSame
namespace Go.Proofs.Ythconfcpajnjgaa
open Go.RowKit Go.ChangeShapes Go.WideShapes Go.Deep

/-- the six cells of a thing done -/
structure Act10 (w : World) (b off : Nat) (d c y c2 y2 n : Int) : Prop where
  k0 : w.cell? ⟨b, off, none⟩ = some (.int .i64 d)
  k1 : w.cell? ⟨b, off + 1, none⟩ = some (.int .i64 c)
  k2 : w.cell? ⟨b, off + 2, none⟩ = some (.int .i64 y)
  k3 : w.cell? ⟨b, off + 3, none⟩ = some (.int .i64 c2)
  k4 : w.cell? ⟨b, off + 4, none⟩ = some (.int .i64 y2)
  k5 : w.cell? ⟨b, off + 5, none⟩ = some (.int .i64 n)
  wf : (Lit.int .i64 d).wf = true ∧ (Lit.int .i64 c).wf = true ∧ (Lit.int .i64 y).wf = true ∧ (Lit.int .i64 c2).wf = true ∧ (Lit.int .i64 y2).wf = true ∧ (Lit.int .i64 n).wf = true
def Acts10 (w : World) (A : Option Addr) (n : Nat) : Prop :=
  n = 0 ∨ ∃ b off, A = some ⟨b, off, none⟩ ∧ b < w.heap.size ∧ ∀ k, k < n → ∃ d c y c2 y2 a, Act10 w b (off + k * 6) d c y c2 y2 a
theorem Acts10.some {w : World} {A : Option Addr} {n k : Nat} (h : Acts10 w A n) (hk : k < n) : ∃ b off d c y c2 y2 a, A = some ⟨b, off, none⟩ ∧ b < w.heap.size ∧ Act10 w b (off + k * 6) d c y c2 y2 a := by
  rcases h with h | ⟨b, off, e, hb, hc⟩
  · omega
  · obtain ⟨d, c, y, c2, y2, a, ha⟩ := hc k hk
    exact ⟨b, off, d, c, y, c2, y2, a, e, hb, ha⟩
theorem Act10.below {w w1 : World} {b off : Nat} {d c y c2 y2 n : Int} (h : Act10 w b off d c y c2 y2 n) (k : Below w.heap.size w w1) : Act10 w1 b off d c y c2 y2 n :=
  ⟨cell_keep h.k0 k, cell_keep h.k1 k, cell_keep h.k2 k, cell_keep h.k3 k, cell_keep h.k4 k, cell_keep h.k5 k, h.wf⟩
section
variable {H : Type} {enc : TypeId × Value → H} {w : World} {base : Nat} {held : Bool}
theorem act10_int {fuel : Nat} {v : Value} {x : DataW H × List MemPlace} (h : DataW.trod enc Try.prog w base (fun _ => true) held fuel 3 [v] = some x) : ∃ n, v = .int .i64 n ∧ (Lit.int .i64 n).wf = true := by
  obtain ⟨n, e, _, wf⟩ := DataW.trod_int Try.underlying3 h
  injection e with e _
  exact ⟨n, e, wf⟩
set_option maxRecDepth 100000 in
theorem acts10_open {fuel : Nat} {A : Option Addr} {n c : Nat} {x : DataW H × List MemPlace} (h : DataW.trod enc Try.prog w base (fun _ => true) held fuel 33 [.slice A n c] = some x) : Acts10 w A n := by
  rcases open_slice Try.underlying33 h with ⟨e, _⟩ | ⟨a, len, cap, m, n', D, Pl, hcs, _, hl, hm, hmm, _, hi⟩
  · injection e with e _
    injection e with _ e2 _
    exact .inl e2
  · injection hcs with e _
    injection e with e1 e2 e3
    subst e1 e2 e3
    simp only [if_true] at hmm
    have hC : Try.prog.cellsOf 35 = 6 := by kernel_rfl
    rcases Nat.eq_zero_or_pos n with h0 | h0
    · exact .inl h0
    right
    have cells : ∀ i, i < n → ∃ v0 v1 v2 v3 v4 v5, (∀ j u, [v0, v1, v2, v3, v4, v5][j]? = some u → w.cell? ((a.add (i * 6)).add j) = some u) ∧
        (∃ q, v0 = .int .i64 q ∧ (Lit.int .i64 q).wf = true) ∧ (∃ q, v1 = .int .i64 q ∧ (Lit.int .i64 q).wf = true) ∧ (∃ q, v2 = .int .i64 q ∧ (Lit.int .i64 q).wf = true) ∧ (∃ q, v3 = .int .i64 q ∧ (Lit.int .i64 q).wf = true) ∧ (∃ q, v4 = .int .i64 q ∧ (Lit.int .i64 q).wf = true) ∧ (∃ q, v5 = .int .i64 q ∧ (Lit.int .i64 q).wf = true) := by
      intro i hin
      obtain ⟨cs', hc, ht'⟩ := hi i (by omega)
      rw [hC] at hc
      obtain ⟨xs, n2, _, _, _, hxl, hf⟩ := DataW.trod_struct Try.underlying35 ht'
      obtain ⟨_, hcl, hat⟩ := World.cells?_some hc
      match cs', hcl with
      | [v0, v1, v2, v3, v4, v5], _ =>
        have hx : ∀ i : Nat, i < 6 → ∃ y, xs[i]? = some y := fun i hi => ⟨_, List.getElem?_eq_getElem (by rw [hxl]; exact hi)⟩
        have e1 : Try.prog.cellsOf 3 = 1 := by kernel_rfl
        obtain ⟨y0, hy0⟩ := hx 0 (by omega)
        have t0 : DataW.trod enc Try.prog w base (fun _ => true) held n2 3 (([v0, v1, v2, v3, v4, v5].drop 0).take (Try.prog.cellsOf 3)) = xs[0]? := hf 0 _ rfl
        rw [e1, hy0] at t0
        obtain ⟨y1, hy1⟩ := hx 1 (by omega)
        have t1 : DataW.trod enc Try.prog w base (fun _ => true) held n2 3 (([v0, v1, v2, v3, v4, v5].drop 1).take (Try.prog.cellsOf 3)) = xs[1]? := hf 1 _ rfl
        rw [e1, hy1] at t1
        obtain ⟨y2, hy2⟩ := hx 2 (by omega)
        have t2 : DataW.trod enc Try.prog w base (fun _ => true) held n2 3 (([v0, v1, v2, v3, v4, v5].drop 2).take (Try.prog.cellsOf 3)) = xs[2]? := hf 2 _ rfl
        rw [e1, hy2] at t2
        obtain ⟨y3, hy3⟩ := hx 3 (by omega)
        have t3 : DataW.trod enc Try.prog w base (fun _ => true) held n2 3 (([v0, v1, v2, v3, v4, v5].drop 3).take (Try.prog.cellsOf 3)) = xs[3]? := hf 3 _ rfl
        rw [e1, hy3] at t3
        obtain ⟨y4, hy4⟩ := hx 4 (by omega)
        have t4 : DataW.trod enc Try.prog w base (fun _ => true) held n2 3 (([v0, v1, v2, v3, v4, v5].drop 4).take (Try.prog.cellsOf 3)) = xs[4]? := hf 4 _ rfl
        rw [e1, hy4] at t4
        obtain ⟨y5, hy5⟩ := hx 5 (by omega)
        have t5 : DataW.trod enc Try.prog w base (fun _ => true) held n2 3 (([v0, v1, v2, v3, v4, v5].drop 5).take (Try.prog.cellsOf 3)) = xs[5]? := hf 5 _ rfl
        rw [e1, hy5] at t5
        refine ⟨v0, v1, v2, v3, v4, v5, fun j u hu => ?_, act10_int t0, act10_int t1, act10_int t2, act10_int t3, act10_int t4, act10_int t5⟩
        have hj : j < 6 := by have := (List.getElem?_eq_some_iff.1 hu).1; simpa using this
        rw [hat j hj]; exact hu
    obtain ⟨b, off, spot⟩ := a
    have hspot : spot = none := by
      obtain ⟨v0, v1, v2, v3, v4, v5, hc, _⟩ := cells 0 h0
      simpa [Addr.add] using World.cell?_spot (hc 0 v0 rfl)
    subst hspot
    have plain : ∀ i j, ((⟨b, off, none⟩ : Addr).add (i * 6)).add j = ⟨b, off + i * 6 + j, none⟩ := fun i j => by rw [Go.WideShapes.add_plain, Go.WideShapes.add_plain]
    refine ⟨b, off, rfl, ?_, fun k hk => ?_⟩
    · obtain ⟨v0, v1, v2, v3, v4, v5, hc, _⟩ := cells 0 h0
      have := hc 0 v0 rfl
      rw [plain] at this
      exact World.block_lt_of_cell? w _ this
    · obtain ⟨v0, v1, v2, v3, v4, v5, hc, ⟨q0, rfl, f0⟩, ⟨q1, rfl, f1⟩, ⟨q2, rfl, f2⟩, ⟨q3, rfl, f3⟩, ⟨q4, rfl, f4⟩, ⟨q5, rfl, f5⟩⟩ := cells k hk
      have cc : ∀ j u, [Value.int .i64 q0, .int .i64 q1, .int .i64 q2, .int .i64 q3, .int .i64 q4, .int .i64 q5][j]? = some u → w.cell? ⟨b, off + k * 6 + j, none⟩ = some u := fun j u hu => by rw [← plain]; exact hc j u hu
      exact ⟨_, _, _, _, _, _, ⟨cc 0 _ rfl, cc 1 _ rfl, cc 2 _ rfl, cc 3 _ rfl, cc 4 _ rfl, cc 5 _ rfl, f0, f1, f2, f3, f4, f5⟩⟩
end
end Go.Proofs.Ythconfcpajnjgaa
