/- The argument of law 13's statements, opened: things done with losses: four numbers and a list of numbers each. -/
import Derived.Test.YtdjepibgpgeifaaRows
import Derived.Test.YtdjepibgpgeifaaMem
import Derived.Test.YtdjepibgpgeifaaObj
import Derived.Deep.Slices
import Derived.ProofKit
import Derived.ChangeSame
namespace Go.Proofs.Ytdjepibgpgeifaa
open Go.RowKit Go.ChangeShapes Go.WideShapes Go.Deep

/-- the five cells of a thing done -/
structure Act13 (w : World) (b off : Nat) (d o l n : Int) (A1 : Option Addr) (n1 c1 : Nat) (z1 : List Int) : Prop where
  k0 : w.cell? ⟨b, off, none⟩ = some (.int .i64 d)
  k1 : w.cell? ⟨b, off + 1, none⟩ = some (.int .i64 o)
  k2 : w.cell? ⟨b, off + 2, none⟩ = some (.int .i64 l)
  k3 : w.cell? ⟨b, off + 3, none⟩ = some (.int .i64 n)
  k4 : w.cell? ⟨b, off + 4, none⟩ = some (.slice A1 n1 c1)
  r1 : IsRow .i64 w A1 n1 c1 z1
  wf : (Lit.int .i64 d).wf = true ∧ (Lit.int .i64 o).wf = true ∧ (Lit.int .i64 l).wf = true ∧ (Lit.int .i64 n).wf = true
def Acts13 (w : World) (A : Option Addr) (n : Nat) : Prop :=
  n = 0 ∨ ∃ b off, A = some ⟨b, off, none⟩ ∧ b < w.heap.size ∧ ∀ k, k < n → ∃ d o l a A1 n1 c1 z1, Act13 w b (off + k * 5) d o l a A1 n1 c1 z1
theorem Acts13.some {w : World} {A : Option Addr} {n k : Nat} (h : Acts13 w A n) (hk : k < n) : ∃ b off d o l a A1 n1 c1 z1, A = Option.some ⟨b, off, none⟩ ∧ b < w.heap.size ∧ Act13 w b (off + k * 5) d o l a A1 n1 c1 z1 := by
  rcases h with h | ⟨b, off, e, hb, hc⟩
  · omega
  · obtain ⟨d, o, l, a, A1, n1, c1, z1, ha⟩ := hc k hk
    exact ⟨b, off, d, o, l, a, A1, n1, c1, z1, e, hb, ha⟩
theorem isrow_below {w w1 : World} {A : Option Addr} {n c : Nat} {zs : List Int} (h : IsRow .i64 w A n c zs) (k : Below w.heap.size w w1) : IsRow .i64 w1 A n c zs := by
  rcases h with h | ⟨x, rfl, h1, h2, h3, h4, h5⟩
  · exact .inl h
  · exact .inr ⟨x, rfl, h1, h2, h3, fun i hi => cell_keep (h4 i hi) k, h5⟩
theorem Act13.below {w w1 : World} {b off : Nat} {d o l n : Int} {A1 : Option Addr} {n1 c1 : Nat} {z1 : List Int} (h : Act13 w b off d o l n A1 n1 c1 z1) (k : Below w.heap.size w w1) : Act13 w1 b off d o l n A1 n1 c1 z1 :=
  ⟨cell_keep h.k0 k, cell_keep h.k1 k, cell_keep h.k2 k, cell_keep h.k3 k, cell_keep h.k4 k, isrow_below h.r1 k, h.wf⟩
section
variable {H : Type} {enc : TypeId × Value → H} {w : World} {base : Nat} {held : Bool}
theorem act13_int {fuel : Nat} {v : Value} {x : DataW H × List MemPlace} (h : DataW.trod enc Try.prog w base (fun _ => true) held fuel 3 [v] = some x) : ∃ n, v = .int .i64 n ∧ (Lit.int .i64 n).wf = true := by
  obtain ⟨n, e, _, wf⟩ := DataW.trod_int Try.underlying3 h
  injection e with e _
  exact ⟨n, e, wf⟩
theorem act13_ints {fuel : Nat} {v : Value} {x : DataW H × List MemPlace} (h : DataW.trod enc Try.prog w base (fun _ => true) held fuel 34 [v] = some x) : ∃ A n c z, v = .slice A n c ∧ IsRow .i64 w A n c z := by
  rcases open_ints Try.underlying34 Try.underlying3 (by kernel_rfl) h with ⟨e, _⟩ | ⟨x, l, c, zs, e, _, hl, hm, hz, _, hcell, hwz⟩
  · injection e with e _
    exact ⟨none, 0, 0, [], e, .inl ⟨rfl, rfl, rfl, rfl⟩⟩
  · injection e with e _
    exact ⟨some x, l, c, zs, e, .inr ⟨x, rfl, hl, hm, by simpa using hz, hcell, hwz⟩⟩
set_option maxRecDepth 100000 in
theorem acts13_open {fuel : Nat} {A : Option Addr} {n c : Nat} {x : DataW H × List MemPlace} (h : DataW.trod enc Try.prog w base (fun _ => true) held fuel 38 [.slice A n c] = some x) : Acts13 w A n := by
  rcases open_slice Try.underlying38 h with ⟨e, _⟩ | ⟨a, len, cap, m, n', D, Pl, hcs, _, hl, hm, hmm, _, hi⟩
  · injection e with e _
    injection e with _ e2 _
    exact .inl e2
  · injection hcs with e _
    injection e with e1 e2 e3
    subst e1 e2 e3
    simp only [if_true] at hmm
    have hC : Try.prog.cellsOf 40 = 5 := by kernel_rfl
    rcases Nat.eq_zero_or_pos n with h0 | h0
    · exact .inl h0
    right
    have cells : ∀ i, i < n → ∃ v0 v1 v2 v3 v4, (∀ j u, [v0, v1, v2, v3, v4][j]? = some u → w.cell? ((a.add (i * 5)).add j) = some u) ∧
        (∃ q, v0 = .int .i64 q ∧ (Lit.int .i64 q).wf = true) ∧ (∃ q, v1 = .int .i64 q ∧ (Lit.int .i64 q).wf = true) ∧ (∃ q, v2 = .int .i64 q ∧ (Lit.int .i64 q).wf = true) ∧ (∃ q, v3 = .int .i64 q ∧ (Lit.int .i64 q).wf = true) ∧
        (∃ A n c z, v4 = .slice A n c ∧ IsRow .i64 w A n c z) := by
      intro i hin
      obtain ⟨cs', hc, ht'⟩ := hi i (by omega)
      rw [hC] at hc
      obtain ⟨xs, n2, _, _, _, hxl, hf⟩ := DataW.trod_struct Try.underlying40 ht'
      obtain ⟨_, hcl, hat⟩ := World.cells?_some hc
      match cs', hcl with
      | [v0, v1, v2, v3, v4], _ =>
        have hx : ∀ i : Nat, i < 5 → ∃ y, xs[i]? = some y := fun i hi => ⟨_, List.getElem?_eq_getElem (by rw [hxl]; exact hi)⟩
        have e1 : Try.prog.cellsOf 3 = 1 := by kernel_rfl
        have e2 : Try.prog.cellsOf 34 = 1 := by kernel_rfl
        obtain ⟨y0, hy0⟩ := hx 0 (by omega)
        have t0 : DataW.trod enc Try.prog w base (fun _ => true) held n2 3 (([v0, v1, v2, v3, v4].drop 0).take (Try.prog.cellsOf 3)) = xs[0]? := hf 0 _ rfl
        rw [e1, hy0] at t0
        obtain ⟨y1, hy1⟩ := hx 1 (by omega)
        have t1 : DataW.trod enc Try.prog w base (fun _ => true) held n2 3 (([v0, v1, v2, v3, v4].drop 1).take (Try.prog.cellsOf 3)) = xs[1]? := hf 1 _ rfl
        rw [e1, hy1] at t1
        obtain ⟨y2, hy2⟩ := hx 2 (by omega)
        have t2 : DataW.trod enc Try.prog w base (fun _ => true) held n2 3 (([v0, v1, v2, v3, v4].drop 2).take (Try.prog.cellsOf 3)) = xs[2]? := hf 2 _ rfl
        rw [e1, hy2] at t2
        obtain ⟨y3, hy3⟩ := hx 3 (by omega)
        have t3 : DataW.trod enc Try.prog w base (fun _ => true) held n2 3 (([v0, v1, v2, v3, v4].drop 3).take (Try.prog.cellsOf 3)) = xs[3]? := hf 3 _ rfl
        rw [e1, hy3] at t3
        obtain ⟨y4, hy4⟩ := hx 4 (by omega)
        have t4 : DataW.trod enc Try.prog w base (fun _ => true) held n2 34 (([v0, v1, v2, v3, v4].drop 4).take (Try.prog.cellsOf 34)) = xs[4]? := hf 4 _ rfl
        rw [e2, hy4] at t4
        refine ⟨v0, v1, v2, v3, v4, fun j u hu => ?_, act13_int t0, act13_int t1, act13_int t2, act13_int t3, act13_ints t4⟩
        have hj : j < 5 := by have := (List.getElem?_eq_some_iff.1 hu).1; simpa using this
        rw [hat j hj]; exact hu
    obtain ⟨b, off, spot⟩ := a
    have hspot : spot = none := by
      obtain ⟨v0, v1, v2, v3, v4, hc, _⟩ := cells 0 h0
      simpa [Addr.add] using World.cell?_spot (hc 0 v0 rfl)
    subst hspot
    have plain : ∀ i j, ((⟨b, off, none⟩ : Addr).add (i * 5)).add j = ⟨b, off + i * 5 + j, none⟩ := fun i j => by rw [Go.WideShapes.add_plain, Go.WideShapes.add_plain]
    refine ⟨b, off, rfl, ?_, fun k hk => ?_⟩
    · obtain ⟨v0, v1, v2, v3, v4, hc, _⟩ := cells 0 h0
      have := hc 0 v0 rfl
      rw [plain] at this
      exact World.block_lt_of_cell? w _ this
    · obtain ⟨v0, v1, v2, v3, v4, hc, ⟨q0, rfl, f0⟩, ⟨q1, rfl, f1⟩, ⟨q2, rfl, f2⟩, ⟨q3, rfl, f3⟩, ⟨A1, n1, c1, z1, rfl, r1⟩⟩ := cells k hk
      have cc : ∀ j u, [Value.int .i64 q0, .int .i64 q1, .int .i64 q2, .int .i64 q3, .slice A1 n1 c1][j]? = some u → w.cell? ⟨b, off + k * 5 + j, none⟩ = some u := fun j u hu => by rw [← plain]; exact hc j u hu
      exact ⟨_, _, _, _, _, _, _, _, ⟨cc 0 _ rfl, cc 1 _ rfl, cc 2 _ rfl, cc 3 _ rfl, cc 4 _ rfl, r1, f0, f1, f2, f3⟩⟩
end
end Go.Proofs.Ytdjepibgpgeifaa
