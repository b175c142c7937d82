/- A tax in the making: the losses' copy, the result's cells, rows that nobody writes: what lies in memory; small contracts of the document's. -/
import Derived.Test.YtmeljcogoeghaaaTxMath
import Derived.Test.YtmeljcogoeghaaaRUse
import Derived.Test.YtmeljcogoeghaaaRInc
import Derived.WalkKit
import Derived.WalkSpells
import Derived.WalkLawsBesides
import Derived.Lib.Hide
import Derived.IntWalk
import Derived.Laws.ResultCell
import Derived.Deep.LoopGhost
namespace Go.Proofs.Ytmeljcogoeghaaa
open Go.RowKit

/-- whole numbers that can be read, in a block without a mark -/
def AtO (O : Nat → Nat) (w : World) (U : Option Addr) (q : Nat) (u : Nat → Int) : Prop := At w U q u ∧ ∀ b off, U = some ⟨b, off, none⟩ → b < w.heap.size ∧ O b = 0
section
variable {w0 w w1 : World} {O O1 : Nat → Nat} {base t t' sb n q : Nat} {U : Option Addr} {u : Nat → Int} {g : Nat → Bk} {S : Int → Int → Int} {xs : List Value}
theorem AtO.step (h : AtO O w U q u) (k : Step base O t w O1 w1) (ht : t ≠ 0) : AtO O1 w1 U q u := by
  refine ⟨?_, fun b off e => ?_⟩
  · rcases h.1 with h0 | ⟨b, off, e, hb, hc⟩
    · exact .inl h0
    · refine .inr ⟨b, off, e, Nat.lt_of_lt_of_le hb k.kept.size, fun j hj => ?_⟩
      rw [← hc j hj]
      refine World.cell?_of_block (a := ⟨b, off + j, none⟩) (k.kept.block b hb ?_)
      rw [(h.2 b off e).2]; exact fun e => ht e.symm
  · obtain ⟨h1, h2⟩ := h.2 b off e
    exact ⟨Nat.lt_of_lt_of_le h1 k.kept.size, by rw [k.ext b h1]; exact h2⟩
theorem AtO.of {E : TypeId} {c : Nat} (fn : Fin0 base O w) (o : Own w1 E w.heap.size (.slice U q c) q u) : AtO O w1 U q u := by
  obtain ⟨A', c', e, _, _, ha⟩ := o.at
  injection e with e1 _ _
  subst e1
  refine ⟨ha, fun b off e => ?_⟩
  obtain ⟨z1, z2⟩ := World.ownsRow.lt o b (by rw [e]; rfl)
  exact ⟨z2, fn.2 b z1⟩
theorem AtO.none (O : Nat → Nat) (w : World) (u : Nat → Int) : AtO O w .none 0 u := ⟨.inl rfl, fun _ _ e => by cases e⟩
theorem Head.far (h : Head w O t sb xs) {b : Nat} (o : Nat) (x : Value) (hne : sb ≠ b) : Head (w.setCell ⟨b, o, .none⟩ x) O t sb xs :=
  h.block (Below.heap_setCell _ _ _ _ hne) (by simp) rfl
theorem fz_keep {b j : Nat} (h : w.frozen? ⟨b, j, .none⟩ = false) (hb : b < w.heap.size) (k : Below w.heap.size w w1) : w1.frozen? ⟨b, j, .none⟩ = false := (k.frozen hb).trans h
/-- the losses' copy bears mark 1; the result and what it is made from (two blocks of w's end) bear mark 2 -/
structure TXS (w wr : World) (O : Nat → Nat) (sb : Nat) (S : Int → Int → Int) (xs ys : List Value) : Prop where
  now : NowL w wr O 1 sb S
  res : Head wr O 2 w.heap.size xs
  mkg : Head wr O 2 (w.heap.size + 1) ys
variable {wr : World} {ys : List Value} {S1 : Int → Int → Int}
theorem TXS.below (h : TXS w wr O sb S xs ys) (k : Below wr.heap.size wr w1) : TXS w w1 O sb S xs ys := ⟨h.now.below k, h.res.below k, h.mkg.below k⟩
theorem TXS.step (h : TXS w wr O sb S xs ys) (k : Step w.heap.size O 1 wr O1 w1) (n1 : NowL w w1 O1 1 sb S1) : TXS w w1 O1 sb S1 xs ys := ⟨n1, h.res.step k (by decide), h.mkg.step k (by decide)⟩
theorem TXS.set (h : TXS w wr O sb S xs ys) (j : Nat) (x : Value) (hj : j < ys.length) : TXS w (wr.setCell ⟨w.heap.size + 1, j, .none⟩ x) O sb S xs (ys.set j x) ∧ Step w.heap.size O 2 wr O (wr.setCell ⟨w.heap.size + 1, j, .none⟩ x) := by
  have st := Step.set (t := 2) h.now.fin j x h.mkg.tag
  exact ⟨⟨h.now.step st (by decide) (by decide), h.res.far _ _ (by omega), h.mkg.set j x hj⟩, st⟩
theorem TXS.setR (h : TXS w wr O sb S xs ys) (j : Nat) (x : Value) (hj : j < xs.length) : TXS w (wr.setCell ⟨w.heap.size, j, .none⟩ x) O sb S (xs.set j x) ys ∧ Step w.heap.size O 2 wr O (wr.setCell ⟨w.heap.size, j, .none⟩ x) := by
  have st := Step.set (t := 2) h.now.fin j x h.res.tag
  exact ⟨⟨h.now.step st (by decide) (by decide), h.res.set j x hj, h.mkg.far _ _ (by omega)⟩, st⟩
theorem two_heads (w : World) (xs ys : List Value) (T T' : TypeId) : ∃ O, Fin0 w.heap.size O ((w.alloc (.cells xs.toArray T)).alloc (.cells ys.toArray T')) ∧ Head ((w.alloc (.cells xs.toArray T)).alloc (.cells ys.toArray T')) O 2 w.heap.size xs ∧ Head ((w.alloc (.cells xs.toArray T)).alloc (.cells ys.toArray T')) O 2 (w.heap.size + 1) ys := by
  have s1 := Step.made (t := 2) (Fin0.zero w.heap.size w) (Nat.le_refl _) (.cells xs.toArray T) 3
  have h1 := Head.new w (fun _ => 0) 2 xs.toArray T
  obtain ⟨w1, hw1⟩ : ∃ w1, w.alloc (.cells xs.toArray T) = w1 := ⟨_, rfl⟩
  have z1 : w1.heap.size = w.heap.size + 1 := by rw [← hw1]; simp
  obtain ⟨O1, hO⟩ : ∃ O1, mark (fun _ => 0) 2 w.heap.size = O1 := ⟨_, rfl⟩
  rw [hw1, hO] at s1 h1
  rw [hw1]
  have s2 := Step.made (t := 2) s1.fin (by omega) (.cells ys.toArray T') 3
  have h2 := Head.new w1 O1 2 ys.toArray T'
  rw [z1] at s2 h2
  exact ⟨_, s2.fin, h1.step s2 (by decide), h2⟩
/-- another copy, under a mark of its own -/
theorem nlcopy (h : NowL w0 w O t sb S) (W0 : World) {O2 : Nat → Nat} (fn : Fin0 W0.heap.size O2 w) (lo : Below W0.heap.size W0 w) (t' : Nat) :
    Calls Try.prog 43 #[ptr sb] w fun e w' => ∃ sb' O', e = .returned (ptr sb') ∧ NowL W0 w' O' t' sb' S ∧ ∀ t2, Step W0.heap.size O2 t2 w O' w' := by
  obtain ⟨v, n, g, s, iv⟩ := h.st
  refine (rlcopy s (by have := iv.le; omega) fn lo.size t').mono ?_
  rintro e w' ⟨v', sb', O', rfl, s', _, st⟩
  exact ⟨sb', O', rfl, ⟨⟨v', n, g, s', iv⟩, (st 0).fin, lo.trans ((st 1).below fn (by decide) lo.size)⟩, st⟩
end
theorem rtotal (A : Option Addr) (n c : Nat) (u : Nat → Int) (w : World) (hu : At w A n u) (_hn : n ≤ 1000) (pos : ∀ j, j < n → 0 ≤ u j ∧ u j ≤ 100000000000) :
    Calls Try.prog 47 #[.slice A n c] w fun e w' => e = .returned (.int .i64 (tot u n)) ∧ Below w.heap.size w w' := by
  have HU := Lib.hid hu
  have TB : Hid (∀ k, k ≤ n → 0 ≤ tot u k ∧ tot u k ≤ 100000000000000) := Lib.hid fun k hk => by
    refine ⟨tot_nonneg k fun j hj => (pos j (by omega)).1, ?_⟩
    have := tot_le (h := fun _ => 100000000000) k fun j hj => (pos j (by omega)).2
    rw [tot_const] at this; omega
  clear hu pos
  go_enter Try.func47, Try.ntmps47
  go_wp2
  go_loopg [3, 8] n (fun gh s i wr => ∃ k : Nat, k ≤ n ∧ gh = n - k ∧ i = .int .i64 k ∧ s = .int .i64 (tot u k) ∧ Below w.heap.size w wr)
  case atStart => exact ⟨0, Nat.zero_le _, rfl, rfl, rfl, Below.refl _ _⟩
  case round =>
    obtain ⟨k, hk, hgk, rfl, rfl, hbw⟩ := hrel
    have HGK := Lib.hid hgk
    have HW := Lib.hid hbw
    clear hgk hbw
    by_cases hlt : k < n
    · obtain ⟨b, off, rfl, hb, hc⟩ := (HU.out.below HW.out).some (by omega)
      have c0 := hc k hlt
      have e0 : tot u (k + 1) = tot u k + u k := rfl
      obtain ⟨t1, t2⟩ := TB.out k hk
      obtain ⟨t3, t4⟩ := TB.out (k + 1) (by omega)
      obtain ⟨x, hx⟩ : ∃ x, u k = x := ⟨_, rfl⟩
      obtain ⟨t, ht⟩ : ∃ t, tot u k = t := ⟨_, rfl⟩
      rw [e0] at t3 t4
      rw [hx] at c0 t3 t4 e0
      rw [ht] at t1 t2 t3 t4 e0 ⊢
      have E0 := Lib.hid e0
      clear hc e0 hx ht
      go_wp2
      go_roundg (n - (k + 1))
      case measure => have := HGK.out; omega
      case rel => exact ⟨k + 1, by omega, rfl, by go_num, by rw [E0.out]; try go_num, HW.out⟩
    · obtain rfl : k = n := by omega
      clear hlt
      go_wp2
      go_ret
      exact ⟨rfl, HW.out⟩
/-- a tax's seven cells as one value -/
def txa (i e u n t x : Int) (v : Value) : Value := .agg #[.int .i64 i, .int .i64 e, .int .i64 u, .int .i64 n, .int .i64 t, .int .i64 x, v]
def txl (i e u n t x : Int) (v : Value) : List Value := [.int .i64 i, .int .i64 e, .int .i64 u, .int .i64 n, .int .i64 t, .int .i64 x, v]
theorem load_t {w : World} {O : Nat → Nat} {t b q c : Nat} {i e u n tb x : Int} {U : Option Addr} (h : Head w O t b (txl i e u n tb x (.slice U q c))) : (loadVar 48 ⟨b, 0, none⟩).run Try.prog w = .ok (txa i e u n tb x (.slice U q c)) w := by
  have c0 := h.cell 0 _ rfl
  have c1 := h.cell 1 _ rfl
  have c2 := h.cell 2 _ rfl
  have c3 := h.cell 3 _ rfl
  have c4 := h.cell 4 _ rfl
  have c5 := h.cell 5 _ rfl
  have c6 := h.cell 6 _ rfl
  clear h
  go_simp
  rfl
theorem results_ctt {fn : Func} {p u v : Tmp} {T : TypeId} (h : fn.results = #[.cell p T, .tmp u, .tmp v]) (tmps : Array Value) (w : World) (b : Nat) (x : Value) (hp : tmps.getD p undef = .pointer (some ⟨b, 0, none⟩)) (hl : (loadVar T ⟨b, 0, none⟩).run Try.prog w = .ok x w) :
    (results fn tmps).run Try.prog w = .ok (.tuple #[x, tmps.getD u undef, tmps.getD v undef]) w := by
  have hp' : tmps[p]?.getD undef = .pointer (some ⟨b, 0, none⟩) := by simpa using hp
  simp [results, h, hp', asAddr, hl, Result.andThen]
end Go.Proofs.Ytmeljcogoeghaaa
