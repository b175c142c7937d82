/- Losses of which the rows and their sum are known, under a mark: a contract for each call; the things done, each of their numbers as a function. -/
import Derived.Test.YtdjepibgpgeifaaLaw13a
import Derived.Test.YtdjepibgpgeifaaActs13
import Derived.Test.YtdjepibgpgeifaaVnMath4
import Derived.WalkKit
import Derived.WalkSpells
import Derived.WalkLawsBesides
import Derived.Lib.Hide
import Derived.IntWalk
namespace Go.Proofs.Ytdjepibgpgeifaa
open Go.RowKit

/-- losses of which the rows and their sum are known, under a mark -/
structure QV (w0 w : World) (O : Nat → Nat) (t sb : Nat) (S : Int → Int → Int) (T : Int) : Prop where
  now : NowV w0 w O t sb S
  is : ∃ m g, VIs S m g ∧ btot g m = T
/-- what bears no mark stays as it is -/
theorem free_step13 {base t X o : Nat} {O O1 : Nat → Nat} {w w1 : World} {u : Value} (s : Step base O t w O1 w1) (h : O X = 0) (ht : t ≠ 0) (c : w.cell? ⟨X, o, none⟩ = some u) : O1 X = 0 ∧ w1.cell? ⟨X, o, none⟩ = some u := by
  have lt := World.block_lt_of_cell? _ _ c
  exact ⟨(s.ext X lt).trans h, (World.cell?_of_block (a := ⟨X, o, none⟩) (s.kept.block X lt (by rw [h]; exact fun e => ht e.symm))).trans c⟩
/-- rows of losses under a mark -/
structure LTV (w : World) (O : Nat → Nat) (base t : Nat) (v : Value) (n : Nat) (g : Nat → Bk) : Prop where
  own : OwnR ve 3 w 32 base v n g
  tag : ∀ b, v.ownBlock = some b → O b = t
section
variable {w w1 : World} {O O1 : Nat → Nat} {base b0 t t' n : Nat} {v : Value} {g : Nat → Bk}
theorem LTV.below (h : LTV w O base t v n g) (k : Below w.heap.size w w1) : LTV w1 O base t v n g := ⟨h.own.below k, h.tag⟩
theorem LTV.step (h : LTV w O base t v n g) (k : Step b0 O t' w O1 w1) (hne : t ≠ t') : LTV w1 O1 base t v n g :=
  ⟨h.own.blocks fun b hb => k.kept.block b (h.own.lt b hb).2 (by rw [h.tag b hb]; exact hne), fun b hb => (k.ext b (h.own.lt b hb).2).trans (h.tag b hb)⟩
end
section
variable {w0 w w1 : World} {O O1 : Nat → Nat} {t t' sb : Nat} {S : Int → Int → Int} {T : Int}
theorem QV.below (h : QV w0 w O t sb S T) (k : Below w.heap.size w w1) : QV w0 w1 O t sb S T := ⟨h.now.below k, h.is⟩
theorem QV.step (h : QV w0 w O t sb S T) (k : Step w0.heap.size O t' w O1 w1) (h1 : t ≠ t') (h2 : t' ≠ 0) : QV w0 w1 O1 t sb S T := ⟨h.now.step k h1 h2, h.is⟩
theorem qvnew (fn : Fin0 w0.heap.size O w) (lo : Below w0.heap.size w0 w) (t : Nat) (x : Nat → Bk) :
    Calls Try.prog 8 #[] w fun e w' => ∃ sb O', e = .returned (ptr sb) ∧ QV w0 w' O' t sb (bget x 0) (btot x 0) ∧ ∀ t', Step w0.heap.size O t' w O' w' := by
  refine (pvnew w0 w O fn lo t).mono ?_
  rintro e w' ⟨sb, O', rfl, h, st⟩
  exact ⟨sb, O', rfl, ⟨h, 0, x, vis_zero x, rfl⟩, st⟩
theorem qvadd {x : Nat → Bk} {k : Nat} (h : QV w0 w O t sb (bget x k) (btot x k)) (ht : t ≠ 0) (hk : k < 10) (hx : ∀ j, j < k + 1 → FewV (x j)) (c y a : Int) (hz : x k = ⟨c, y, a⟩) :
    Calls Try.prog 10 #[ptr sb, .int .i64 y, .int .i64 c, .int .i64 a] w fun e' w' => e' = .returned (.int .i64 0) ∧ ∃ O', QV w0 w' O' t sb (bget x (k + 1)) (btot x (k + 1)) ∧ Step w0.heap.size O t w O' w' := by
  obtain ⟨m, g, b, hT⟩ := h.is
  have he := came_ok hk hx b
  have hs := bget_step x k
  have hf := fewv_ok (hx k (by omega))
  have ht' : btot x (k + 1) = btot x k + (x k).a := rfl
  rw [hz] at he hs ht' hf
  refine (pvadd h.now ht b c y a 0 he).mono ?_
  rintro e' w' ⟨rfl, O', h', st⟩
  have h'' : NowV w0 w' O' t sb (upS (bget x k) c y (bget x k c y + a)) := h'
  dsimp only at hs hf
  obtain ⟨m', g', iv⟩ := h''.told
  obtain ⟨_, k2⟩ := vis_count b hf iv.is
  rw [hs] at h'' iv
  exact ⟨rfl, O', ⟨h'', m', g', iv.is, by rw [ht', k2, hT]; dsimp only; omega⟩, st⟩
theorem qvleft (h : QV w0 w O t sb S T) :
    Calls Try.prog 11 #[ptr sb] w fun e w' => e = .returned (.int .i64 T) ∧ Below w.heap.size w w' := by
  obtain ⟨m, g, b, e⟩ := h.is
  refine (pvleft h.now b).mono ?_
  rintro e' w' ⟨rfl, hb⟩
  exact ⟨by rw [e], hb⟩
/-- nothing is taken -/
theorem qvtake0 (h : QV w0 w O t sb S T) (ht : t ≠ 0) {m : Nat} {g : Nat → Bk} (b : VIs S m g) {U : Option Addr} {c : Nat} (hu : At w U m (fun _ => 0)) (hU : ∀ b off, U = some ⟨b, off, none⟩ → O b ≠ t) :
    Calls Try.prog 13 #[ptr sb, .slice U m c] w fun e w' => e = .returned (.int .i64 0) ∧ ∃ O', QV w0 w' O' t sb S T ∧ Step w0.heap.size O t w O' w' := by
  obtain ⟨m1, g1, iv⟩ := h.now.told
  obtain ⟨rfl, eg⟩ := iv.is.uniq b
  have hn := iv.le
  refine (pvtake h.now ht b hu hU 0 (.inl ⟨⟨rfl, fun j hj => ⟨Int.le_refl _, by rw [← eg j hj]; exact iv.pos j hj⟩⟩, rfl⟩)).mono ?_
  rintro e w' ⟨rfl, O', h', st⟩
  have e2 : tkS 0 S m1 g (fun _ => 0) = S := by
    unfold tkS
    rw [if_pos rfl]
    funext c y
    rw [← b.2]
    refine tot_ext m1 fun j _ => ?_
    show bval (lessG g (fun _ => 0) j) c y = bval (g j) c y
    unfold bval lessG
    dsimp only
    split <;> omega
  rw [e2] at h'
  exact ⟨rfl, O', ⟨h', h.is⟩, st⟩
end
/-- the five cells of a thing done, as they are loaded -/
structure ActC (w : World) (b off : Nat) (d o l n : Int) (A : Option Addr) (m c : Nat) : Prop where
  k0 : w.cell? ⟨b, off, none⟩ = some (.int .i64 d)
  k1 : w.cell? ⟨b, off + 1, none⟩ = some (.int .i64 o)
  k2 : w.cell? ⟨b, off + 2, none⟩ = some (.int .i64 l)
  k3 : w.cell? ⟨b, off + 3, none⟩ = some (.int .i64 n)
  k4 : w.cell? ⟨b, off + 4, none⟩ = some (.slice A m c)
theorem ActC.below {w w1 : World} {b off : Nat} {d o l n : Int} {A : Option Addr} {m c : Nat} (h : ActC w b off d o l n A m c) (k : Below w.heap.size w w1) : ActC w1 b off d o l n A m c :=
  ⟨cell_keep h.k0 k, cell_keep h.k1 k, cell_keep h.k2 k, cell_keep h.k3 k, cell_keep h.k4 k⟩
/-- the things done, each of their numbers as a function -/
theorem Acts13.fn {w : World} {A : Option Addr} {n : Nat} (h : Acts13 w A n) : ∃ (fd fo fl fa : Nat → Int) (fA : Nat → Option Addr) (fm fc : Nat → Nat), ∀ k, k < n → ∃ b off, A = Option.some ⟨b, off, none⟩ ∧ b < w.heap.size ∧ (∀ j, j < n → ActC w b (off + j * 5) (fd j) (fo j) (fl j) (fa j) (fA j) (fm j) (fc j)) := by
  rcases h with h | ⟨b, off, e, hb, hc⟩
  · exact ⟨fun _ => 0, fun _ => 0, fun _ => 0, fun _ => 0, fun _ => none, fun _ => 0, fun _ => 0, fun k hk => by omega⟩
  · have hc' : ∀ k, ∃ t : Int × Int × Int × Int × Option Addr × Nat × Nat, k < n → ActC w b (off + k * 5) t.1 t.2.1 t.2.2.1 t.2.2.2.1 t.2.2.2.2.1 t.2.2.2.2.2.1 t.2.2.2.2.2.2 := fun k => by
      by_cases q : k < n
      · obtain ⟨d, o, l, a, A1, n1, c1, z1, ha⟩ := hc k q
        exact ⟨(d, o, l, a, A1, n1, c1), fun _ => ⟨ha.k0, ha.k1, ha.k2, ha.k3, ha.k4⟩⟩
      · exact ⟨(0, 0, 0, 0, none, 0, 0), fun z => absurd z q⟩
    obtain ⟨f, hf⟩ := Classical.axiomOfChoice hc'
    exact ⟨fun j => (f j).1, fun j => (f j).2.1, fun j => (f j).2.2.1, fun j => (f j).2.2.2.1, fun j => (f j).2.2.2.2.1, fun j => (f j).2.2.2.2.2.1, fun j => (f j).2.2.2.2.2.2, fun k hk => ⟨b, off, e, hb, fun j hj => hf j hj⟩⟩
/-- two blocks laid one behind the other -/
theorem two_lits13 (w : World) (l l' : List Value) (T T' : TypeId) :
    (∀ j u, l[j]? = some u → ((w.alloc (.cells l.toArray T)).alloc (.cells l'.toArray T')).cell? ⟨w.heap.size, j, none⟩ = some u) ∧
    (∀ j u, l'[j]? = some u → ((w.alloc (.cells l.toArray T)).alloc (.cells l'.toArray T')).cell? ⟨w.heap.size + 1, j, none⟩ = some u) ∧
    Below w.heap.size w ((w.alloc (.cells l.toArray T)).alloc (.cells l'.toArray T')) :=
  ⟨fun j u hu => cell_keep (rec_lit w l T w.heap.size rfl j u hu) ((Below.refl _ _).alloc (Nat.le_refl _) _),
   fun j u hu => rec_lit (w.alloc (.cells l.toArray T)) l' T' (w.heap.size + 1) (by simp) j u hu, ((Below.refl _ _).alloc (Nat.le_refl _) _).alloc (by simp) _⟩
end Go.Proofs.Ytdjepibgpgeifaa
