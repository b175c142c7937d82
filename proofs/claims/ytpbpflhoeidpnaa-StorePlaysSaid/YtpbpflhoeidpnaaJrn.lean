/- A store of journals in memory: rows of journals (six cells each), what may be written by whom, a store and what a call leaves of it. -/
import Derived.Test.YtpbpflhoeidpnaaRows
import Derived.Test.YtpbpflhoeidpnaaStMath
import Derived.Test.YtpbpflhoeidpnaaLine
import Derived.WalkKit
import Derived.Lib.Hide
import Derived.Laws.ResultCell
namespace Go.Proofs.Ytpbpflhoeidpnaa
open Go.RowKit

theorem jr_info : (Try.prog.info? 44).map (fun i => (i.zero, i.size, i.bytes)) = some (some (.agg #[.int .i64 0, .string ⟨#[]⟩, .int .i64 0, .int .i64 0, .int .i64 0, .slice none 0 0]), 6, 72) := by kernel_rfl
theorem jr_type : Try.prog.underlying 33 = some (.slice 44) := Try.underlying33

/-- the cells of journals: their lines lie where L says -/
def jf (L : Nat → Value) (js : Nat → Jn) (i : Nat) : Value :=
  if i % 6 = 0 then .int .i64 (js (i / 6)).seq else if i % 6 = 1 then .string (js (i / 6)).ent else if i % 6 = 2 then .int .i64 (js (i / 6)).per else
  if i % 6 = 3 then .int .i64 (js (i / 6)).kind else if i % 6 = 4 then .int .i64 (js (i / 6)).of else L (i / 6)
section
variable (L : Nat → Value) (js : Nat → Jn) (k : Nat)
theorem jf_0 : jf L js (k * 6) = .int .i64 (js k).seq := by unfold jf; rw [if_pos (by omega), show k * 6 / 6 = k by omega]
theorem jf_1 : jf L js (k * 6 + 1) = .string (js k).ent := by unfold jf; rw [if_neg (by omega), if_pos (by omega), show (k * 6 + 1) / 6 = k by omega]
theorem jf_2 : jf L js (k * 6 + 2) = .int .i64 (js k).per := by unfold jf; rw [if_neg (by omega), if_neg (by omega), if_pos (by omega), show (k * 6 + 2) / 6 = k by omega]
theorem jf_3 : jf L js (k * 6 + 3) = .int .i64 (js k).kind := by unfold jf; rw [if_neg (by omega), if_neg (by omega), if_neg (by omega), if_pos (by omega), show (k * 6 + 3) / 6 = k by omega]
theorem jf_4 : jf L js (k * 6 + 4) = .int .i64 (js k).of := by unfold jf; rw [if_neg (by omega), if_neg (by omega), if_neg (by omega), if_neg (by omega), if_pos (by omega), show (k * 6 + 4) / 6 = k by omega]
theorem jf_5 : jf L js (k * 6 + 5) = L k := by unfold jf; rw [if_neg (by omega), if_neg (by omega), if_neg (by omega), if_neg (by omega), if_neg (by omega), show (k * 6 + 5) / 6 = k by omega]
end
theorem jf_get (F : Nat → Value) {n i : Nat} (h : i < n * 6) : ((List.range (n * 6)).map F)[i]? = some (F i) := by simp [h]
theorem jf_ext {L L' : Nat → Value} {js js' : Nat → Jn} {n : Nat} (h : ∀ j, j < n → L j = L' j ∧ js j = js' j) : (List.range (n * 6)).map (jf L js) = (List.range (n * 6)).map (jf L' js') :=
  List.map_congr_left fun i hi => by
    have hi' : i < n * 6 := by simpa using hi
    unfold jf; rw [(h (i / 6) (by omega)).1, (h (i / 6) (by omega)).2]
/-- one journal's cells -/
def jl (x : Jn) (l : Value) : List Value := [.int .i64 x.seq, .string x.ent, .int .i64 x.per, .int .i64 x.kind, .int .i64 x.of, l]
/-- .. as one value -/
abbrev ja (x : Jn) (l : Value) : Value := .agg #[.int .i64 x.seq, .string x.ent, .int .i64 x.per, .int .i64 x.kind, .int .i64 x.of, l]
theorem jf_push (L : Nat → Value) (js : Nat → Jn) (n : Nat) (x : Jn) (l : Value) : (List.range ((n + 1) * 6)).map (jf (fun j => if j = n then l else L j) (pushJ js n x)) = (List.range (n * 6)).map (jf L js) ++ jl x l := by
  rw [show (n + 1) * 6 = n * 6 + 1 + 1 + 1 + 1 + 1 + 1 by omega]
  simp only [List.range_succ, List.map_append, List.map_cons, List.map_nil]
  rw [jf_0, show n * 6 + 1 + 1 = n * 6 + 2 by omega, show n * 6 + 1 + 1 + 1 = n * 6 + 3 by omega, show n * 6 + 1 + 1 + 1 + 1 = n * 6 + 4 by omega, show n * 6 + 1 + 1 + 1 + 1 + 1 = n * 6 + 5 by omega, jf_1, jf_2, jf_3, jf_4, jf_5, pushJ_at, if_pos rfl]
  rw [jf_ext (L' := L) (js' := js) fun j hj => ⟨if_neg (by omega), pushJ_ne js x (by omega)⟩]
  simp [jl]
theorem wrap_mon {x : Int} (h : Mon x) : wrap64 (-x) = -x := by unfold Mon at h; unfold wrap64; omega
/-- a journal's cells from ⟨b, off⟩ on -/
def JC (w : World) (b off : Nat) (x : Jn) (l : Value) : Prop :=
  w.cell? ⟨b, off, none⟩ = some (.int .i64 x.seq) ∧ w.cell? ⟨b, off + 1, none⟩ = some (.string x.ent) ∧ w.cell? ⟨b, off + 2, none⟩ = some (.int .i64 x.per) ∧ w.cell? ⟨b, off + 3, none⟩ = some (.int .i64 x.kind) ∧ w.cell? ⟨b, off + 4, none⟩ = some (.int .i64 x.of) ∧ w.cell? ⟨b, off + 5, none⟩ = some l
/-- a slice of the call's own (from block base on): n journals -/
def OwnJ (w : World) (base : Nat) (v : Value) (n : Nat) (L : Nat → Value) (js : Nat → Jn) : Prop :=
  w.ownsRow base 44 6 v n ((List.range (n * 6)).map (jf L js))
section
variable {w w1 : World} {base n : Nat} {v : Value} {L : Nat → Value} {js : Nat → Jn}
theorem OwnJ.nil (w : World) (base : Nat) (L : Nat → Value) (js : Nat → Jn) : OwnJ w base (.slice none 0 0) 0 L js := World.ownsRow_nil _ _ _ _
theorem OwnJ.ext {L' : Nat → Value} {js' : Nat → Jn} (o : OwnJ w base v n L js) (e : ∀ j, j < n → L j = L' j ∧ js j = js' j) : OwnJ w base v n L' js' := by
  unfold OwnJ; rw [← jf_ext e]; exact o
theorem OwnJ.kept {row : Option Nat} (o : OwnJ w base v n L js) (hg : w.grownBy w1 row) (hne : v.ownBlock = none ∨ v.ownBlock ≠ row) : OwnJ w1 base v n L js := World.ownsRow.kept o hg hne
theorem OwnJ.alloc (o : OwnJ w base v n L js) (x : Obj) : OwnJ (w.alloc x) base v n L js := World.ownsRow.alloc o x
theorem OwnJ.drew (o : OwnJ w base v n L js) : OwnJ w.drew base v n L js := o
theorem OwnJ.below (o : OwnJ w base v n L js) (k : Below w.heap.size w w1) : OwnJ w1 base v n L js :=
  o.kept (row := none) ⟨k.os, k.tape, k.output, k.size, fun i hi _ => k.block i hi⟩ (by cases h : v.ownBlock <;> simp)
theorem OwnJ.blocks (o : OwnJ w base v n L js) (k : ∀ b, v.ownBlock = some b → w1.heap[b]? = w.heap[b]?) : OwnJ w1 base v n L js := by
  refine ⟨o.1, ?_⟩
  rcases o.2 with h | ⟨g, cap, cur, rfl, hb, hg, r⟩
  · exact .inl h
  · exact .inr ⟨g, cap, cur, rfl, hb, by rw [k g rfl]; exact hg, r⟩
theorem OwnJ.lt (o : OwnJ w base v n L js) : ∀ k, v.ownBlock = some k → base ≤ k ∧ k < w.heap.size := World.ownsRow.lt o
theorem OwnJ.form (o : OwnJ w base v n L js) : ∃ A c, v = .slice A n c ∧ n ≤ c ∧ c ≤ maxLen ∧ (A = none → n = 0 ∧ c = 0) := own_form o
theorem OwnJ.some (o : OwnJ w base v n L js) (hp : 0 < n) : ∃ b c, v = .slice (.some ⟨b, 0, none⟩) n c ∧ n ≤ c ∧ c ≤ maxLen ∧ base ≤ b ∧ b < w.heap.size ∧ ∀ j, j < n → JC w b (j * 6) (js j) (L j) := by
  obtain ⟨b, c, rfl, h1, h2⟩ := own_some o hp
  obtain ⟨h3, h4⟩ := World.ownsRow.lt o b rfl
  have at' : ∀ i, i < n * 6 → w.cell? ⟨b, i, none⟩ = Option.some (jf L js i) := fun i hi => by rw [World.ownsRow.cellAt o _ hi]; exact jf_get _ hi
  refine ⟨b, c, rfl, h1, h2, h3, h4, fun j hj => ⟨?_, ?_, ?_, ?_, ?_, ?_⟩⟩
  · rw [at' _ (by omega), jf_0]
  · rw [at' _ (by omega), jf_1]
  · rw [at' _ (by omega), jf_2]
  · rw [at' _ (by omega), jf_3]
  · rw [at' _ (by omega), jf_4]
  · rw [at' _ (by omega), jf_5]
end
theorem ownJ_at {w : World} {base n b c : Nat} {L : Nat → Value} {js : Nat → Jn} (o : OwnJ w base (.slice (some ⟨b, 0, none⟩) n c) n L js) (k : Nat) (hk : k < n) : b < w.heap.size ∧ JC w b (k * 6) (js k) (L k) := by
  obtain ⟨b', c', e, _, _, _, hb, h⟩ := o.some (by omega)
  injection e with e1 _ _
  injection e1 with e1
  injection e1 with e1 _ _
  subst e1
  exact ⟨hb, h k hk⟩
theorem JC.below {w w1 : World} {b off : Nat} {x : Jn} {l : Value} (h : JC w b off x l) (hb : b < w.heap.size) (k : Below w.heap.size w w1) : JC w1 b off x l := by
  obtain ⟨c0, c1, c2, c3, c4, c5⟩ := h
  exact ⟨(k.cell (p := ⟨b, off, none⟩) hb).trans c0, (k.cell (p := ⟨b, off + 1, none⟩) hb).trans c1, (k.cell (p := ⟨b, off + 2, none⟩) hb).trans c2, (k.cell (p := ⟨b, off + 3, none⟩) hb).trans c3, (k.cell (p := ⟨b, off + 4, none⟩) hb).trans c4, (k.cell (p := ⟨b, off + 5, none⟩) hb).trans c5⟩
theorem JC.news {w : World} {X : Nat} {x : Jn} {l : Value} (h : JC w X 0 x l) : ∀ j u, (jl x l)[j]? = some u → w.cell? ((⟨X, 0, none⟩ : Addr).add j) = some u := by
  obtain ⟨c0, c1, c2, c3, c4, c5⟩ := h
  intro j u hu
  rw [show (⟨X, 0, none⟩ : Addr).add j = ⟨X, j, none⟩ by unfold Addr.add; split <;> simp_all]
  match j, hu with
  | 0, hu => simp [jl] at hu; subst hu; exact c0
  | 1, hu => simp [jl] at hu; subst hu; exact c1
  | 2, hu => simp [jl] at hu; subst hu; exact c2
  | 3, hu => simp [jl] at hu; subst hu; exact c3
  | 4, hu => simp [jl] at hu; subst hu; exact c4
  | 5, hu => simp [jl] at hu; subst hu; exact c5
theorem ownL_blocks {w w1 : World} {E : TypeId} {base n : Nat} {v : Value} {ga gm : Nat → Int} (o : OwnL w E base v n ga gm) (k : ∀ b, v.ownBlock = some b → w1.heap[b]? = w.heap[b]?) : OwnL w1 E base v n ga gm := by
  refine ⟨o.1, ?_⟩
  rcases o.2 with h | ⟨g, cap, cur, rfl, hb, hg, r⟩
  · exact .inl h
  · exact .inr ⟨g, cap, cur, rfl, hb, by rw [k g rfl]; exact hg, r⟩
theorem jl_one {x : Jn} {l : Value} (h : l.oneCell' = true) : ∀ u ∈ jl x l, u.oneCell' = true := by
  intro u hu
  simp only [jl, List.mem_cons, List.not_mem_nil, or_false] at hu
  rcases hu with rfl | rfl | rfl | rfl | rfl | rfl <;> first | exact h | rfl
/-- one journal more, at a step of a region that draws its order -/
theorem step_push_j {ops : Array Oper} {o : Oper} {a : Act} {K : Act → World → Prop} {Q : Exit → Act → World → Prop} {Z : Prop} {w : World} (hgd : o.guard = none) (s x : Operand)
    (ho : o.op = .call { callee := .builtin .append, args := #[s, x], argTypes := #[33, 33] })
    (base n X : Nat) (v : Value) (L : Nat → Value) (js : Nat → Jn) (z : Jn) (l : Value) (hs : a.eval s = v) (hx : a.eval x = .slice (some ⟨X, 0, none⟩) 1 1) (hc : JC w X 0 z l) (hl : l.oneCell' = true)
    (hown : OwnJ w base v n L js) (hn : n ≤ 1000000) (hb : base ≤ w.heap.size) (H : Nat) (hH : w.heap.size = H)
    (h : ∀ b c w', OwnJ w' base (.slice (some ⟨b, 0, none⟩) (n + 1) c) (n + 1) (fun j => if j = n then l else L j) (pushJ js n z) → w.grownBy w' v.ownBlock → (v.ownBlock = some b ∨ b = H) → K (a.put o.dst (.slice (some ⟨b, 0, none⟩) (n + 1) c)) w') :
    if Region.wanted o (yielded ops a.tmps) = true then Oper.wp Try.prog o a w K Q else Z := by
  obtain ⟨i, hi, hz0, hz1, hz2⟩ := info_parts jr_info
  refine step_append_lies _ hgd s x _ ho base _ i _ 6 72 jr_type hi hz0 hz1 hz2 rfl (by decide) v n _ hs hown ⟨X, 0, none⟩ 1 1 (jl z l) hx rfl hc.news (jl_one hl) (by decide) (by unfold maxLen; omega) (by omega) hb H hH ?_
  intro b c w' ho' hg hat _
  refine h b c w' ?_ hg hat
  unfold OwnJ; rw [jf_push]; exact ho'

/-- six cells are written -/
def set6 (w : World) (b o : Nat) (x : Jn) (l : Value) : World :=
  (((((w.setCell ⟨b, o, none⟩ (.int .i64 x.seq)).setCell ⟨b, o + 1, none⟩ (.string x.ent)).setCell ⟨b, o + 2, none⟩ (.int .i64 x.per)).setCell ⟨b, o + 3, none⟩ (.int .i64 x.kind)).setCell ⟨b, o + 4, none⟩ (.int .i64 x.of)).setCell ⟨b, o + 5, none⟩ l
theorem JC.set {w : World} {b o : Nat} {x y : Jn} {l m : Value} (h : JC w b o y m) : JC (set6 w b o x l) b o x l := by
  obtain ⟨c0, c1, c2, c3, c4, c5⟩ := h
  unfold JC set6
  refine ⟨?_, ?_, ?_, ?_, ?_, ?_⟩ <;> go_simp
theorem set6_below {B : Nat} {w w1 : World} {b o : Nat} {x : Jn} {l : Value} (h : Below B w w1) (hb : B ≤ b) : Below B w (set6 w1 b o x l) :=
  (((((h.setCell (p := ⟨b, o, none⟩) hb _).setCell (p := ⟨b, o + 1, none⟩) hb _).setCell (p := ⟨b, o + 2, none⟩) hb _).setCell (p := ⟨b, o + 3, none⟩) hb _).setCell (p := ⟨b, o + 4, none⟩) hb _).setCell (p := ⟨b, o + 5, none⟩) hb _
theorem set6_block (w : World) (b o : Nat) (x : Jn) (l : Value) (k : Nat) (h : k ≠ b) : (set6 w b o x l).heap[k]? = w.heap[k]? := by
  unfold set6
  rw [Below.heap_setCell _ _ _ _ h, Below.heap_setCell _ _ _ _ h, Below.heap_setCell _ _ _ _ h, Below.heap_setCell _ _ _ _ h, Below.heap_setCell _ _ _ _ h, Below.heap_setCell _ _ _ _ h]
theorem set6_size (w : World) (b o : Nat) (x : Jn) (l : Value) : (set6 w b o x l).heap.size = w.heap.size := by unfold set6; simp
/-- one journal is put in place of another -/
theorem OwnJ.set {w : World} {base n b c k : Nat} {L : Nat → Value} {js : Nat → Jn} (o : OwnJ w base (.slice (Option.some ⟨b, 0, none⟩) n c) n L js) (x : Jn) (l : Value) :
    OwnJ (set6 w b (k * 6) x l) base (.slice (Option.some ⟨b, 0, none⟩) n c) n (fun j => if j = k then l else L j) (fun j => if j = k then x else js j) := by
  have h := (World.ownsRow.stored (World.ownsRow.stored (World.ownsRow.stored (World.ownsRow.stored (World.ownsRow.stored (World.ownsRow.stored o (k * 6) (.int .i64 x.seq)).1 (k * 6 + 1) (.string x.ent)).1 (k * 6 + 2) (.int .i64 x.per)).1 (k * 6 + 3) (.int .i64 x.kind)).1 (k * 6 + 4) (.int .i64 x.of)).1 (k * 6 + 5) l).1
  have e : (List.range (n * 6)).map (jf (fun j => if j = k then l else L j) (fun j => if j = k then x else js j)) = (((((((List.range (n * 6)).map (jf L js)).set (k * 6) (.int .i64 x.seq)).set (k * 6 + 1) (.string x.ent)).set (k * 6 + 2) (.int .i64 x.per)).set (k * 6 + 3) (.int .i64 x.kind)).set (k * 6 + 4) (.int .i64 x.of)).set (k * 6 + 5) l := by
    apply List.ext_getElem (by simp)
    intro j h1 h2
    simp only [List.getElem_set, List.getElem_map, List.getElem_range]
    by_cases q : j / 6 = k
    · rcases (show j = k * 6 ∨ j = k * 6 + 1 ∨ j = k * 6 + 2 ∨ j = k * 6 + 3 ∨ j = k * 6 + 4 ∨ j = k * 6 + 5 by omega) with rfl | rfl | rfl | rfl | rfl | rfl
      · rw [jf_0, if_pos rfl, if_neg (by omega), if_neg (by omega), if_neg (by omega), if_neg (by omega), if_neg (by omega), if_pos rfl]
      · rw [jf_1, if_pos rfl, if_neg (by omega), if_neg (by omega), if_neg (by omega), if_neg (by omega), if_pos rfl]
      · rw [jf_2, if_pos rfl, if_neg (by omega), if_neg (by omega), if_neg (by omega), if_pos rfl]
      · rw [jf_3, if_pos rfl, if_neg (by omega), if_neg (by omega), if_pos rfl]
      · rw [jf_4, if_pos rfl, if_neg (by omega), if_pos rfl]
      · rw [jf_5, if_pos rfl, if_pos rfl]
    · rw [if_neg (by omega), if_neg (by omega), if_neg (by omega), if_neg (by omega), if_neg (by omega), if_neg (by omega)]
      unfold jf
      simp only [if_neg q]
  unfold OwnJ; rw [e]; exact h
/-- a journal's cells as one value -/
theorem load_j {w : World} {b o : Nat} {x : Jn} {l : Value} (h : JC w b o x l) : (loadVar 44 ⟨b, o, none⟩).run Try.prog w = .ok (ja x l) w := by
  obtain ⟨c0, c1, c2, c3, c4, c5⟩ := h
  go_simp
theorem results_j {fn : Func} {p : Tmp} (h : fn.results = #[.cell p 44]) (tmps : Array Value) (w : World) (b o : Nat) (x : Jn) (l : Value) (hp : tmps.getD p undef = .pointer (some ⟨b, o, none⟩)) (hc : JC w b o x l) :
    (results fn tmps).run Try.prog w = .ok (ja x l) w := by
  have hp' : tmps[p]?.getD undef = .pointer (some ⟨b, o, none⟩) := by simpa using hp
  simp [results, h, hp', asAddr, load_j hc]
theorem results_jb {fn : Func} {p u : Tmp} (h : fn.results = #[.cell p 44, .tmp u]) (tmps : Array Value) (w : World) (b o : Nat) (x : Jn) (l : Value) (hp : tmps.getD p undef = .pointer (some ⟨b, o, none⟩)) (hc : JC w b o x l) :
    (results fn tmps).run Try.prog w = .ok (.tuple #[ja x l, tmps.getD u undef]) w := by
  have hp' : tmps[p]?.getD undef = .pointer (some ⟨b, o, none⟩) := by simpa using hp
  rw [results_cell_tmp h]
  simp [hp', asAddr, load_j hc, Result.andThen]
/-- what a call leaves that may write only what bears mark t -/
structure Kept (O : Nat → Nat) (t : Nat) (w w' : World) : Prop where
  os : w'.os = w.os
  tape : w'.tape = w.tape
  output : w'.output = w.output
  size : w.heap.size ≤ w'.heap.size
  block : ∀ k, k < w.heap.size → O k ≠ t → w'.heap[k]? = w.heap[k]?
/-- nothing from before the call, and nothing that isn't made yet, bears a mark -/
def Fin0 (base : Nat) (O : Nat → Nat) (w : World) : Prop := (∀ k, k < base → O k = 0) ∧ ∀ k, w.heap.size ≤ k → O k = 0
/-- a step that writes what bears mark t -/
structure Step (base : Nat) (O : Nat → Nat) (t : Nat) (w : World) (O' : Nat → Nat) (w' : World) : Prop where
  kept : Kept O t w w'
  ext : ∀ k, k < w.heap.size → O' k = O k
  fin : Fin0 base O' w'
section
variable {base t : Nat} {O O1 O2 : Nat → Nat} {w w1 w2 : World}
theorem Fin0.below (f : Fin0 base O w) (k : Below w.heap.size w w1) : Fin0 base O w1 := ⟨f.1, fun i hi => f.2 i (Nat.le_trans k.size hi)⟩
theorem Fin0.zero (base : Nat) (w : World) : Fin0 base (fun _ => 0) w := ⟨fun _ _ => rfl, fun _ _ => rfl⟩
theorem Step.of_below (f : Fin0 base O w) (k : Below w.heap.size w w1) : Step base O t w O w1 := ⟨⟨k.os, k.tape, k.output, k.size, fun i hi _ => k.block i hi⟩, fun _ _ => rfl, f.below k⟩
theorem Step.refl (f : Fin0 base O w) : Step base O t w O w := Step.of_below f (Below.refl _ _)
theorem Step.trans (a : Step base O t w O1 w1) (b : Step base O1 t w1 O2 w2) : Step base O t w O2 w2 :=
  ⟨⟨b.kept.os.trans a.kept.os, b.kept.tape.trans a.kept.tape, b.kept.output.trans a.kept.output, Nat.le_trans a.kept.size b.kept.size, fun k hk hO => (b.kept.block k (Nat.lt_of_lt_of_le hk a.kept.size) (by rw [a.ext k hk]; exact hO)).trans (a.kept.block k hk hO)⟩,
   fun k hk => (b.ext k (Nat.lt_of_lt_of_le hk a.kept.size)).trans (a.ext k hk), b.fin⟩
theorem Step.below (s : Step base O t w O1 w1) (f : Fin0 base O w) (ht : t ≠ 0) (hb : base ≤ w.heap.size) : Below base w w1 :=
  ⟨s.kept.os, s.kept.tape, s.kept.output, s.kept.size, fun k hk => s.kept.block k (by omega) (by rw [f.1 k hk]; exact fun e => ht e.symm)⟩
end
/-- lines that can be read, and that no call writes -/
def SomeF (O : Nat → Nat) (v : Value) (w : World) (n : Nat) (ga gm : Nat → Int) : Prop := SomeL v w n ga gm ∧ ∀ b, v.ownBlock = some b → n = 0 ∨ O b = 0
section
variable {base t : Nat} {O O1 : Nat → Nat} {w w1 : World} {v : Value} {n : Nat} {ga gm : Nat → Int}
theorem SomeL.below (h : SomeL v w n ga gm) (k : Below w.heap.size w w1) : SomeL v w1 n ga gm := by
  obtain ⟨A, c, e, h1, h2, h3, h4⟩ := h
  exact ⟨A, c, e, h1, h2, h3, h4.below k⟩
theorem SomeL.one (h : SomeL v w n ga gm) : v.oneCell' = true := by
  obtain ⟨A, c, rfl, _⟩ := h; rfl
theorem SomeL.ext {ga' gm' : Nat → Int} (h : SomeL v w n ga gm) (e : ∀ j, j < n → ga j = ga' j ∧ gm j = gm' j) : SomeL v w n ga' gm' := by
  obtain ⟨A, c, ea, h1, h2, h3, h4⟩ := h
  exact ⟨A, c, ea, h1, h2, h3, h4.ext e⟩
/-- lines stay where their block stays -/
theorem SomeL.blocks (h : SomeL v w n ga gm) (hz : w.heap.size ≤ w1.heap.size) (k : ∀ b, v.ownBlock = some b → n = 0 ∨ w1.heap[b]? = w.heap[b]?) : SomeL v w1 n ga gm := by
  obtain ⟨A, c, rfl, h1, h2, h3, h4⟩ := h
  refine ⟨A, c, rfl, h1, h2, h3, ?_⟩
  rcases h4 with h4 | ⟨b, off, rfl, hb, hc⟩
  · exact .inl h4
  · rcases k b rfl with k | k
    · exact .inl k
    · exact .inr ⟨b, off, rfl, by omega, fun j hj => ⟨(World.cell?_of_block (a := ⟨b, off + j * 2, none⟩) k).trans (hc j hj).1, (World.cell?_of_block (a := ⟨b, off + j * 2 + 1, none⟩) k).trans (hc j hj).2⟩⟩
theorem SomeL.lt (h : SomeL v w n ga gm) (hn : n ≠ 0) : ∀ b, v.ownBlock = some b → b < w.heap.size := by
  obtain ⟨A, c, rfl, h1, h2, h3, h4⟩ := h
  rcases h4 with h4 | ⟨b, off, rfl, hb, hc⟩
  · omega
  · intro b' hb'
    have : b = b' := by simpa [Value.ownBlock] using hb'
    omega
theorem SomeF.below (h : SomeF O v w n ga gm) (k : Below w.heap.size w w1) : SomeF O v w1 n ga gm := ⟨h.1.below k, h.2⟩
theorem SomeF.step (h : SomeF O v w n ga gm) (s : Step base O t w O1 w1) (ht : t ≠ 0) : SomeF O1 v w1 n ga gm := by
  by_cases h0 : n = 0
  · exact ⟨h.1.blocks s.kept.size fun b hb => .inl h0, fun b hb => .inl h0⟩
  · refine ⟨h.1.blocks s.kept.size fun b hb => ?_, fun b hb => ?_⟩
    · rcases h.2 b hb with q | q
      · exact .inl q
      · exact .inr (s.kept.block b (h.1.lt h0 b hb) (by rw [q]; exact fun e => ht e.symm))
    · rw [s.ext b (h.1.lt h0 b hb)]; exact h.2 b hb
/-- fresh lines -/
theorem SomeF.fresh {b0 : Nat} {E : TypeId} (f : Fin0 base O w) (o : OwnL w1 E b0 v n ga gm) (hb : w.heap.size ≤ b0) : SomeF O v w1 n ga gm :=
  ⟨o.someL, fun b h => .inr (f.2 b (by have := (World.ownsRow.lt o b h).1; omega))⟩
theorem SomeF.ext {ga' gm' : Nat → Int} (h : SomeF O v w n ga gm) (e : ∀ j, j < n → ga j = ga' j ∧ gm j = gm' j) : SomeF O v w n ga' gm' := ⟨h.1.ext e, h.2⟩
end
/-- a store behind block sb, whose mark is t -/
structure StV (w : World) (O : Nat → Nat) (base t sb : Nat) (v : Value) (L : Nat → Value) (n : Nat) (js : Nat → Jn) : Prop where
  cell : w.cell? ⟨sb, 0, none⟩ = some v
  frz : w.frozen? ⟨sb, 0, none⟩ = false
  tag : O sb = t
  own : OwnJ w base v n L js
  vtag : ∀ b, v.ownBlock = some b → O b = t ∧ b ≠ sb
  lines : ∀ j, j < n → SomeF O (L j) w (js j).n (js j).ga (js j).gm
  inv : Inv n js
def St (w : World) (O : Nat → Nat) (base t sb n : Nat) (js : Nat → Jn) : Prop := ∃ v L, StV w O base t sb v L n js
section
variable {base t t' sb n : Nat} {O O1 : Nat → Nat} {w w1 w2 : World} {v : Value} {L : Nat → Value} {js : Nat → Jn}
theorem StV.lt (s : StV w O base t sb v L n js) : sb < w.heap.size := World.block_lt_of_cell? w _ s.cell
theorem StV.below (s : StV w O base t sb v L n js) (k : Below w.heap.size w w1) : StV w1 O base t sb v L n js :=
  ⟨(k.cell (p := ⟨sb, 0, none⟩) s.lt).trans s.cell, (k.frozen (p := ⟨sb, 0, none⟩) s.lt).trans s.frz, s.tag, s.own.below k, s.vtag, fun j hj => (s.lines j hj).below k, s.inv⟩
theorem StV.at {A : Option Addr} {c : Nat} (s : StV w O base t sb (.slice A n c) L n js) (k : Nat) (hk : k < n) : ∃ b, A = some ⟨b, 0, none⟩ ∧ b < w.heap.size ∧ JC w b (k * 6) (js k) (L k) := by
  obtain ⟨b, c', e, _, _, _, hb, h⟩ := s.own.some (by omega)
  injection e with e1 _ _
  exact ⟨b, e1, hb, h k hk⟩
theorem St.below (s : St w O base t sb n js) (k : Below w.heap.size w w1) : St w1 O base t sb n js := by
  obtain ⟨v, L, s⟩ := s
  exact ⟨v, L, s.below k⟩
/-- another store's steps leave a store alone -/
theorem StV.step (s : StV w O base t sb v L n js) (k : Step base O t' w O1 w1) (h : t ≠ t') (ht : t' ≠ 0) : StV w1 O1 base t sb v L n js := by
  have hs := s.lt
  have hk := k.kept.block sb hs (by rw [s.tag]; exact h)
  refine ⟨(World.cell?_of_block (a := ⟨sb, 0, none⟩) hk).trans s.cell, (World.frozen?_of_block (a := ⟨sb, 0, none⟩) hk).trans s.frz, (k.ext sb hs).trans s.tag, s.own.blocks fun b hb => ?_, fun b hb => ?_, fun j hj => (s.lines j hj).step k ht, s.inv⟩
  · exact k.kept.block b (s.own.lt b hb).2 (by rw [(s.vtag b hb).1]; exact h)
  · rw [k.ext b (s.own.lt b hb).2]; exact s.vtag b hb
theorem St.step (s : St w O base t sb n js) (k : Step base O t' w O1 w1) (h : t ≠ t') (ht : t' ≠ 0) : St w1 O1 base t sb n js := by
  obtain ⟨v, L, s⟩ := s
  exact ⟨v, L, s.step k h ht⟩
/-- a new store -/
theorem St.new (f : Fin0 base O w) (hb : base ≤ w.heap.size) (T : TypeId) (js : Nat → Jn) : ∃ O', St (w.alloc (.cells #[.slice none 0 0] T)) O' base t w.heap.size 0 js ∧ ∀ t', Step base O t' w O' (w.alloc (.cells #[.slice none 0 0] T)) := by
  have hh := heap_alloc_new w (.cells #[.slice none 0 0] T)
  refine ⟨fun k => if k = w.heap.size then t else O k, ⟨.slice none 0 0, fun _ => .slice none 0 0, ⟨?_, ?_, if_pos rfl, OwnJ.nil _ _ _ _, fun b h => (by simp [Value.ownBlock] at h), fun j hj => by omega, Inv.nil _⟩⟩, fun t' => ⟨⟨rfl, rfl, rfl, by simp, fun k hk _ => Below.heap_alloc w _ k hk⟩, fun k hk => if_neg (by omega), fun k hk => ?_, fun k hk => ?_⟩⟩
  · rw [cell_of_row _ w.heap.size 0 _ T (0, 0) hh]; rfl
  · exact frozen_of_row _ w.heap.size 0 _ T hh
  · show (if k = w.heap.size then t else O k) = 0
    rw [if_neg (by omega)]; exact f.1 k hk
  · have hk' : w.heap.size + 1 ≤ k := by simpa using hk
    show (if k = w.heap.size then t else O k) = 0
    rw [if_neg (by omega)]; exact f.2 k (by omega)
/-- a journal was put behind the others -/
theorem StV.pushed (s : StV w O base t sb v L n js) (f : Fin0 base O w) (ht : t ≠ 0) (b1 : Below w.heap.size w w1) {b2 c2 H : Nat} {x : Jn} {l : Value} (g : w1.grownBy w2 v.ownBlock)
    (o2 : OwnJ w2 base (.slice (some ⟨b2, 0, none⟩) (n + 1) c2) (n + 1) (fun j => if j = n then l else L j) (pushJ js n x)) (hat : v.ownBlock = some b2 ∨ b2 = H) (hH : w1.heap.size ≤ H)
    (lx : SomeL l w1 x.n x.ga x.gm) (lf : ∀ b, l.ownBlock = some b → w.heap.size ≤ b) (iv : Inv (n + 1) (pushJ js n x)) :
    ∃ O', St (w2.setCell ⟨sb, 0, none⟩ (.slice (some ⟨b2, 0, none⟩) (n + 1) c2)) O' base t sb (n + 1) (pushJ js n x) ∧ Step base O t w O' (w2.setCell ⟨sb, 0, none⟩ (.slice (some ⟨b2, 0, none⟩) (n + 1) c2)) := by
  have hsb := s.lt
  have z1 := b1.size
  have z2 := g.size
  have hb2 := (o2.lt b2 rfl).2
  have hne : b2 ≠ sb := by
    rcases hat with h | h
    · exact (s.vtag b2 h).2
    · omega
  have hvt : ∀ b, v.ownBlock = some b → b < w.heap.size := fun b h => (s.own.lt b h).2
  have keep : ∀ k, k < w1.heap.size → v.ownBlock ≠ some k → k ≠ sb → (w2.setCell ⟨sb, 0, none⟩ (.slice (some ⟨b2, 0, none⟩) (n + 1) c2)).heap[k]? = w1.heap[k]? := fun k hk h1 h2 => by
    rw [Below.heap_setCell _ _ _ _ h2]; exact g.block k hk fun e => h1 e.symm
  have hO : ∀ k, k < w.heap.size → (if k = b2 then t else O k) = O k := fun k hk => by
    by_cases q : k = b2
    · rw [if_pos q]
      rcases hat with h | h
      · rw [q]; exact ((s.vtag b2 h).1).symm
      · omega
    · exact if_neg q
  have hsz : (w2.setCell ⟨sb, 0, none⟩ (.slice (some ⟨b2, 0, none⟩) (n + 1) c2)).heap.size = w2.heap.size := by simp
  have fr2 : w2.frozen? ⟨sb, 0, none⟩ = false := by
    rw [World.frozen?_of_block (a := ⟨sb, 0, none⟩) (g.block sb (by omega) (fun e => (s.vtag sb e.symm).2 rfl))]
    exact (b1.frozen (p := ⟨sb, 0, none⟩) hsb).trans s.frz
  have ce2 : w2.cell? ⟨sb, 0, none⟩ = some v := by
    rw [World.cell?_of_block (a := ⟨sb, 0, none⟩) (g.block sb (by omega) (fun e => (s.vtag sb e.symm).2 rfl))]
    exact (b1.cell (p := ⟨sb, 0, none⟩) hsb).trans s.cell
  have lineF : ∀ (l' : Value) (m : Nat) (ga gm : Nat → Int), SomeL l' w1 m ga gm → (∀ b, l'.ownBlock = some b → m = 0 ∨ (O b = 0)) → SomeF (fun k => if k = b2 then t else O k) l' (w2.setCell ⟨sb, 0, none⟩ (.slice (some ⟨b2, 0, none⟩) (n + 1) c2)) m ga gm := by
    intro l' m ga gm h1 h2
    by_cases h0 : m = 0
    · exact ⟨h1.blocks (by omega) fun b _ => .inl h0, fun b _ => .inl h0⟩
    · refine ⟨h1.blocks (by omega) fun b hb => .inr (keep b (h1.lt h0 b hb) (fun e => ?_) (fun e => ?_)), fun b hb => ?_⟩
      · rcases h2 b hb with q | q
        · exact h0 q
        · rw [(s.vtag b e).1] at q; exact ht q
      · rcases h2 b hb with q | q
        · exact h0 q
        · rw [e, s.tag] at q; exact ht q
      · rcases h2 b hb with q | q
        · exact .inl q
        · right
          have := h1.lt h0 b hb
          by_cases e : b = b2
          · rcases hat with h | h
            · rw [e, (s.vtag b2 h).1] at q; exact absurd q ht
            · omega
          · exact (if_neg e).trans q
  refine ⟨fun k => if k = b2 then t else O k, ⟨.slice (some ⟨b2, 0, none⟩) (n + 1) c2, fun j => if j = n then l else L j, ⟨?_, ?_, ?_, ?_, ?_, ?_, iv⟩⟩, ⟨⟨?_, ?_, ?_, ?_, ?_⟩, hO, ?_, ?_⟩⟩
  · exact World.cell?_setCell_same _ _ _ ce2
  · simpa using fr2
  · exact (if_neg fun e => hne e.symm).trans s.tag
  · refine o2.blocks fun b hb => ?_
    have : b2 = b := by simpa [Value.ownBlock] using hb
    subst this
    exact Below.heap_setCell _ _ _ _ hne
  · intro b hb
    have : b2 = b := by simpa [Value.ownBlock] using hb
    subst this
    exact ⟨if_pos rfl, hne⟩
  · intro j hj
    by_cases q : j = n
    · simp only [if_pos q]
      rw [q, pushJ_at]
      exact lineF _ _ _ _ lx fun b h => .inr (f.2 b (lf b h))
    · simp only [if_neg q]
      rw [pushJ_ne js x q]
      have := s.lines j (by omega)
      exact lineF _ _ _ _ (this.1.below b1) this.2
  · exact g.os.trans b1.os
  · exact g.tape.trans b1.tape
  · exact g.output.trans b1.output
  · omega
  · intro k hk hOk
    rw [keep k (by omega) (fun e => hOk ((s.vtag k e).1)) (fun e => hOk (by rw [e]; exact s.tag))]
    exact b1.block k hk
  · intro k hk
    have := (o2.lt b2 rfl).1
    show (if k = b2 then t else O k) = 0
    rw [if_neg (by omega)]; exact f.1 k hk
  · intro k hk
    show (if k = b2 then t else O k) = 0
    rw [if_neg (by omega)]; exact f.2 k (by omega)
end
end Go.Proofs.Ytpbpflhoeidpnaa
