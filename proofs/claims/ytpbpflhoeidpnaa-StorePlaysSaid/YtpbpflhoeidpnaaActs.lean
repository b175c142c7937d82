/- The argument of law 7's StorePlays, opened: postings of six numbers and two lists of numbers. -/
import Derived.Test.YtpbpflhoeidpnaaRows
import Derived.Test.YtpbpflhoeidpnaaMem
import Derived.Deep.Slices
import Derived.ProofKit
import Derived.ChangeSame
namespace Go.Proofs.Ytpbpflhoeidpnaa
open Go.RowKit Go.ChangeShapes Go.WideShapes Go.Deep

/-- the eight cells of a posting -/
structure ActAt (w : World) (b off : Nat) (en pe kd of : Int) (A1 : Option Addr) (n1 c1 : Nat) (z1 : List Int) (A2 : Option Addr) (n2 c2 : Nat) (z2 : List Int) (at' wh : Int) : Prop where
  k0 : w.cell? ⟨b, off, none⟩ = some (.int .i64 en)
  k1 : w.cell? ⟨b, off + 1, none⟩ = some (.int .i64 pe)
  k2 : w.cell? ⟨b, off + 2, none⟩ = some (.int .i64 kd)
  k3 : w.cell? ⟨b, off + 3, none⟩ = some (.int .i64 of)
  k4 : w.cell? ⟨b, off + 4, none⟩ = some (.slice A1 n1 c1)
  k5 : w.cell? ⟨b, off + 5, none⟩ = some (.slice A2 n2 c2)
  k6 : w.cell? ⟨b, off + 6, none⟩ = some (.int .i64 at')
  k7 : w.cell? ⟨b, off + 7, none⟩ = some (.int .i64 wh)
  r1 : IsRow .i64 w A1 n1 c1 z1
  r2 : IsRow .i64 w A2 n2 c2 z2
  wf : (Lit.int .i64 en).wf = true ∧ (Lit.int .i64 pe).wf = true ∧ (Lit.int .i64 kd).wf = true ∧ (Lit.int .i64 of).wf = true ∧ (Lit.int .i64 at').wf = true ∧ (Lit.int .i64 wh).wf = true
/-- n postings from A on -/
def ActsAt (w : World) (A : Option Addr) (n : Nat) : Prop :=
  n = 0 ∨ ∃ b off, A = some ⟨b, off, none⟩ ∧ b < w.heap.size ∧ ∀ k, k < n → ∃ en pe kd of A1 n1 c1 z1 A2 n2 c2 z2 at' wh, ActAt w b (off + k * 8) en pe kd of A1 n1 c1 z1 A2 n2 c2 z2 at' wh
section
variable {H : Type} {enc : TypeId × Value → H} {w : World} {base : Nat} {held : Bool}
theorem act_int {fuel : Nat} {v : Value} {x : DataW H × List MemPlace} (h : DataW.trod enc Try.prog w base (fun _ => true) held fuel 3 [v] = some x) : ∃ n, v = .int .i64 n ∧ (Lit.int .i64 n).wf = true := by
  obtain ⟨n, e, _, wf⟩ := DataW.trod_int Try.underlying3 h
  injection e with e _
  exact ⟨n, e, wf⟩
theorem act_ints {fuel : Nat} {v : Value} {x : DataW H × List MemPlace} (h : DataW.trod enc Try.prog w base (fun _ => true) held fuel 40 [v] = some x) : ∃ A n c z, v = .slice A n c ∧ IsRow .i64 w A n c z := by
  rcases open_ints Try.underlying40 Try.underlying3 (by kernel_rfl) h with ⟨e, _⟩ | ⟨x, l, c, zs, e, _, hl, hm, hz, _, hcell, hwz⟩
  · injection e with e _
    exact ⟨none, 0, 0, [], e, .inl ⟨rfl, rfl, rfl, rfl⟩⟩
  · injection e with e _
    exact ⟨some x, l, c, zs, e, .inr ⟨x, rfl, hl, hm, by simpa using hz, hcell, hwz⟩⟩
set_option maxRecDepth 100000 in
theorem acts_open {fuel : Nat} {A : Option Addr} {n c : Nat} {x : DataW H × List MemPlace} (h : DataW.trod enc Try.prog w base (fun _ => true) held fuel 47 [.slice A n c] = some x) : ActsAt w A n := by
  rcases open_slice Try.underlying47 h with ⟨e, _⟩ | ⟨a, len, cap, m, n', D, Pl, hcs, _, hl, hm, hmm, _, hi⟩
  · injection e with e _
    injection e with _ e2 _
    exact .inl e2
  · injection hcs with e _
    injection e with e1 e2 e3
    subst e1 e2 e3
    simp only [if_true] at hmm
    have hC : Try.prog.cellsOf 52 = 8 := by kernel_rfl
    rcases Nat.eq_zero_or_pos n with h0 | h0
    · exact .inl h0
    right
    have cells : ∀ i, i < n → ∃ v0 v1 v2 v3 v4 v5 v6 v7, (∀ j u, [v0, v1, v2, v3, v4, v5, v6, v7][j]? = some u → w.cell? ((a.add (i * 8)).add j) = some u) ∧
        (∃ q, v0 = .int .i64 q ∧ (Lit.int .i64 q).wf = true) ∧ (∃ q, v1 = .int .i64 q ∧ (Lit.int .i64 q).wf = true) ∧ (∃ q, v2 = .int .i64 q ∧ (Lit.int .i64 q).wf = true) ∧ (∃ q, v3 = .int .i64 q ∧ (Lit.int .i64 q).wf = true) ∧
        (∃ A n c z, v4 = .slice A n c ∧ IsRow .i64 w A n c z) ∧ (∃ A n c z, v5 = .slice A n c ∧ IsRow .i64 w A n c z) ∧ (∃ q, v6 = .int .i64 q ∧ (Lit.int .i64 q).wf = true) ∧ (∃ q, v7 = .int .i64 q ∧ (Lit.int .i64 q).wf = true) := by
      intro i hin
      obtain ⟨cs', hc, ht'⟩ := hi i (by omega)
      rw [hC] at hc
      obtain ⟨xs, n2, _, _, _, hxl, hf⟩ := DataW.trod_struct Try.underlying52 ht'
      obtain ⟨_, hcl, hat⟩ := World.cells?_some hc
      match cs', hcl with
      | [v0, v1, v2, v3, v4, v5, v6, v7], _ =>
        have hx : ∀ i : Nat, i < 8 → ∃ y, xs[i]? = some y := fun i hi => ⟨_, List.getElem?_eq_getElem (by rw [hxl]; exact hi)⟩
        have e1 : Try.prog.cellsOf 3 = 1 := by kernel_rfl
        have e2 : Try.prog.cellsOf 40 = 1 := by kernel_rfl
        obtain ⟨y0, hy0⟩ := hx 0 (by omega)
        have t0 : DataW.trod enc Try.prog w base (fun _ => true) held n2 3 (([v0, v1, v2, v3, v4, v5, v6, v7].drop 0).take (Try.prog.cellsOf 3)) = xs[0]? := hf 0 _ rfl
        rw [e1, hy0] at t0
        obtain ⟨y1, hy1⟩ := hx 1 (by omega)
        have t1 : DataW.trod enc Try.prog w base (fun _ => true) held n2 3 (([v0, v1, v2, v3, v4, v5, v6, v7].drop 1).take (Try.prog.cellsOf 3)) = xs[1]? := hf 1 _ rfl
        rw [e1, hy1] at t1
        obtain ⟨y2, hy2⟩ := hx 2 (by omega)
        have t2 : DataW.trod enc Try.prog w base (fun _ => true) held n2 3 (([v0, v1, v2, v3, v4, v5, v6, v7].drop 2).take (Try.prog.cellsOf 3)) = xs[2]? := hf 2 _ rfl
        rw [e1, hy2] at t2
        obtain ⟨y3, hy3⟩ := hx 3 (by omega)
        have t3 : DataW.trod enc Try.prog w base (fun _ => true) held n2 3 (([v0, v1, v2, v3, v4, v5, v6, v7].drop 3).take (Try.prog.cellsOf 3)) = xs[3]? := hf 3 _ rfl
        rw [e1, hy3] at t3
        obtain ⟨y4, hy4⟩ := hx 4 (by omega)
        have t4 : DataW.trod enc Try.prog w base (fun _ => true) held n2 40 (([v0, v1, v2, v3, v4, v5, v6, v7].drop 4).take (Try.prog.cellsOf 40)) = xs[4]? := hf 4 _ rfl
        rw [e2, hy4] at t4
        obtain ⟨y5, hy5⟩ := hx 5 (by omega)
        have t5 : DataW.trod enc Try.prog w base (fun _ => true) held n2 40 (([v0, v1, v2, v3, v4, v5, v6, v7].drop 5).take (Try.prog.cellsOf 40)) = xs[5]? := hf 5 _ rfl
        rw [e2, hy5] at t5
        obtain ⟨y6, hy6⟩ := hx 6 (by omega)
        have t6 : DataW.trod enc Try.prog w base (fun _ => true) held n2 3 (([v0, v1, v2, v3, v4, v5, v6, v7].drop 6).take (Try.prog.cellsOf 3)) = xs[6]? := hf 6 _ rfl
        rw [e1, hy6] at t6
        obtain ⟨y7, hy7⟩ := hx 7 (by omega)
        have t7 : DataW.trod enc Try.prog w base (fun _ => true) held n2 3 (([v0, v1, v2, v3, v4, v5, v6, v7].drop 7).take (Try.prog.cellsOf 3)) = xs[7]? := hf 7 _ rfl
        rw [e1, hy7] at t7
        refine ⟨v0, v1, v2, v3, v4, v5, v6, v7, fun j u hu => ?_, act_int t0, act_int t1, act_int t2, act_int t3, act_ints t4, act_ints t5, act_int t6, act_int t7⟩
        have hj : j < 8 := by have := (List.getElem?_eq_some_iff.1 hu).1; simpa using this
        rw [hat j hj]; exact hu
    obtain ⟨b, off, spot⟩ := a
    have hspot : spot = none := by
      obtain ⟨v0, v1, v2, v3, v4, v5, v6, v7, hc, _⟩ := cells 0 h0
      simpa [Addr.add] using World.cell?_spot (hc 0 v0 rfl)
    subst hspot
    have plain : ∀ i j, ((⟨b, off, none⟩ : Addr).add (i * 8)).add j = ⟨b, off + i * 8 + j, none⟩ := fun i j => by rw [Go.WideShapes.add_plain, Go.WideShapes.add_plain]
    refine ⟨b, off, rfl, ?_, fun k hk => ?_⟩
    · obtain ⟨v0, v1, v2, v3, v4, v5, v6, v7, hc, _⟩ := cells 0 h0
      have := hc 0 v0 rfl
      rw [plain] at this
      exact World.block_lt_of_cell? w _ this
    · obtain ⟨v0, v1, v2, v3, v4, v5, v6, v7, hc, ⟨q0, rfl, f0⟩, ⟨q1, rfl, f1⟩, ⟨q2, rfl, f2⟩, ⟨q3, rfl, f3⟩, ⟨A1, n1, c1, z1, rfl, r1⟩, ⟨A2, n2, c2, z2, rfl, r2⟩, ⟨q6, rfl, f6⟩, ⟨q7, rfl, f7⟩⟩ := cells k hk
      have cc : ∀ j u, [Value.int .i64 q0, .int .i64 q1, .int .i64 q2, .int .i64 q3, .slice A1 n1 c1, .slice A2 n2 c2, .int .i64 q6, .int .i64 q7][j]? = some u → w.cell? ⟨b, off + k * 8 + j, none⟩ = some u := fun j u hu => by rw [← plain]; exact hc j u hu
      exact ⟨_, _, _, _, _, _, _, _, _, _, _, _, _, _, ⟨cc 0 _ rfl, cc 1 _ rfl, cc 2 _ rfl, cc 3 _ rfl, cc 4 _ rfl, cc 5 _ rfl, cc 6 _ rfl, cc 7 _ rfl, r1, r2, f0, f1, f2, f3, f6, f7⟩⟩
end
end Go.Proofs.Ytpbpflhoeidpnaa
