/- Rows of classes, ordered by the library's sort (its contract at whatever length, out of the library): a permutation, ascending. -/
import Derived.Test.YtcobenflfnmhgaaRoMrg
import Derived.Test.YtcobenflfnmhgaaLayRow
import Derived.Shelf.SlSortCmp.WholeK
import Derived.Shelf.SlSortCmp.NoneTotal
import Derived.WalkKit
import Derived.WalkSpells
import Derived.WalkLawsBesides
import Derived.Lib.Hide
namespace Go.Proofs.Ytcobenflfnmhgaa
open Go.RowKit

instance wyInh : Inhabited Wy := ⟨⟨0, 0, 0, 0, 0⟩⟩
/-- rows, as an array -/
def arrW (f : Nat → Wy) (n : Nat) : Array Wy := ((List.range n).map f).toArray
theorem arrW_size (f : Nat → Wy) (n : Nat) : (arrW f n).size = n := by simp [arrW]
theorem arrW_get (f : Nat → Wy) {n i : Nat} (h : i < n) : (arrW f n)[i]! = f i := by simp [arrW, h]
/-- how two rows compare -/
def wcf (x y : Wy) : Int := cmpc x.c y.c
theorem wlt (x y : Wy) : Go.Proofs.ltOf wcf x y = decide (x.c < y.c) := by
  unfold Go.Proofs.ltOf wcf
  by_cases h : x.c < y.c
  · simp [h, cmpc_neg.2 h]
  · simp [h, mt cmpc_neg.1 h]
theorem wswo : Go.Sort.SWO (Go.Proofs.ltOf wcf) where
  irrefl x := by rw [wlt]; simp
  trans x y z h1 h2 := by rw [wlt] at *; simp at *; omega
  ntrans x y z h1 h2 := by rw [wlt] at *; simp at *; omega
section
variable {w : World} {base b n c : Nat} {f : Nat → Wy} {E : TypeId}
theorem holds_own (o : OwnR we 5 w E base (.slice (some ⟨b, 0, none⟩) n c) n f) (hn : 0 < n) : Go.Sort.HoldsK we 5 w b 0 (arrW f n) := by
  obtain ⟨b', c', e, _, _, _, _, hc, hf⟩ := o.some we_len hn
  injection e with e _ _
  injection e with e
  injection e with e _ _
  subst e
  intro t ht
  rw [Go.Sort.size_flatK, arrW_size] at ht
  rw [Nat.zero_add]
  refine ⟨?_, hf t⟩
  rw [Go.Sort.get_flatK _ _ _ _ (by rw [arrW_size]; exact ht), arrW_get f (by omega)]
  have h5 : t % 5 < (we (f (t / 5))).length := by rw [we_len]; omega
  have := hc (t / 5) (by omega) (t % 5) _ (List.getElem?_eq_getElem h5)
  rw [show t / 5 * 5 + t % 5 = t by omega] at this
  rw [this]
  simp [getElem!_pos, h5]
theorem at_holds {d : Array Wy} (h : Go.Sort.HoldsK we 5 w b 0 d) (hs : d.size = n) (hb : b < w.heap.size) : AtR we 5 w (some ⟨b, 0, none⟩) n (fun j => d[j]!) :=
  .inr ⟨b, 0, rfl, hb, fun j hj i u hu => by
    have h5 : i < 5 := by
      have := (List.getElem?_eq_some_iff.1 hu).1
      rw [we_len] at this; exact this
    have := (h.cell (i := j) (c := i) (by omega) h5).1
    rw [this]
    have h6 : i < (we d[j]!).length := by rw [we_len]; exact h5
    have hu' : (we d[j]!)[i]? = some u := hu
    rw [getElem!_pos (we d[j]!) i h6, ← hu']
    exact (List.getElem?_eq_getElem h6).symm⟩
theorem below_sort {d : Array Wy} (m : Nat) (os : Array Obj) (hb : base ≤ b) (hl : b < w.heap.size) : Below base w (Go.Proofs.sortWorldK we 5 w b 0 m d os) := by
  refine ⟨rfl, rfl, rfl, Go.Proofs.size_sortWorldK_c we 5 w b 0 m d os, fun k hk => ?_⟩
  show ((w.heap.modify b _) ++ os)[k]? = w.heap[k]?
  rw [Array.getElem?_append_left (by simp; omega), Array.getElem?_modify, if_neg (by omega)]
end
theorem turned_perm {n : Nat} {f : Nat → Wy} {d' : Array Wy} (h : Go.Sort.PermIn 0 (arrW f n).size (arrW f n) d') : d'.size = n ∧ Turned n f (fun j => d'[j]!) := by
  obtain ⟨h1, _, h3⟩ := h
  have hs : d'.size = n := by rw [h1, arrW_size]
  refine ⟨hs, ?_⟩
  have e : (List.range n).map (fun j => d'[j]!) = d'.toList := by
    apply List.ext_getElem (by simp [hs])
    intro i h1 h2
    simp only [List.getElem_map, List.getElem_range, Array.getElem_toList]
    have : i < d'.size := by simpa using h2
    rw [getElem!_pos d' i this]
  unfold Turned
  rw [e]
  have e1 : (d'.extract 0 (arrW f n).size).toList = d'.toList := by simp [arrW_size, ← hs]
  have e2 : ((arrW f n).extract 0 (arrW f n).size).toList = (List.range n).map f := by
    simp only [arrW, List.size_toArray, List.length_map, List.length_range, Array.toList_extract, List.extract_eq_take_drop, List.drop_zero, Nat.sub_zero]
    exact List.take_of_length_le (by simp)
  rw [e1, e2] at h3
  exact h3.symm
theorem wcmp_any (x y : Wy) (W : World) : Calls Try.prog 24 #[.agg (we x).toArray, .agg (we y).toArray] W fun e w' => e = .returned (.int .i64 (wcf x y)) ∧ ∃ q os', w' = Go.Sort.grow (W.drewN q) os' := by
  obtain ⟨xc, xy, xo, xm, xk⟩ := x
  obtain ⟨yc, yy, yo, ym, yk⟩ := y
  have CC := Lib.hid fun w => cmpi_any xc yc w
  simp only [we, wcf]
  generalize cmpc xc yc = r at CC ⊢
  go_enter Try.func24, Try.ntmps24
  go_wp2_with (go_at_call 25; (refine (CC.out _).mono ?_); rintro e w' ⟨rfl, rfl⟩)
  go_ret
  exact ⟨rfl, 0, _, by rw [Go.Sort.alloc_eq_grow, Go.Sort.alloc_eq_grow, Go.Sort.grow_grow]; rfl⟩
theorem rsize (w : World) : (Go.sizeOf 36).run Try.prog w = .ok 5 w := Try.sizeOf36 w
theorem ragg (w : World) : (isAgg 36).run Try.prog w = .ok true w := Try.isAgg36 w
/-- the library's sort at rows of classes -/
theorem psort {w : World} {base n c : Nat} {A : Option Addr} {f : Nat → Wy} {E : TypeId} (o : OwnR we 5 w E base (.slice A n c) n f) (hn : n ≤ 1000000) :
    Calls Try.prog 23 #[.slice A n c, .func (.func 24) #[] #[]] w fun e w' => e = .returned (.tuple #[]) ∧ ∃ f', Turned n f f' ∧ (∀ i j, i < j → j < n → (f' i).c ≤ (f' j).c) ∧ AtR we 5 w' A n f' ∧ Below base w w' := by
  rcases Nat.eq_zero_or_pos n with rfl | hp
  · have h := Go.Proofs.AnyF.slices_SortFunc_none (P := Try.prog) (ρ := sortRow_ren) sortRow A c (.func (.func 24) #[] #[]) w
    refine h.mono ?_
    rintro e w' ⟨rfl, rfl⟩
    exact ⟨rfl, f, List.Perm.refl _, fun i j _ hj => by omega, .inl rfl, Below.refl _ _⟩
  · obtain ⟨b, c', e, _, _, h3, h4, _, _⟩ := o.some we_len hp
    injection e with e1 _ e2
    subst e1 e2
    have eg : ∀ args w, (callFunc 24 args).run Try.prog w = .ok (.enter 24 args) w := enters_of Try.func24 (by kernel_rfl) rfl
    have h := Go.Proofs.AnyQ.slices_SortFunc (P := Try.prog) (ρ := sortRow_ren) sortRow 5 ragg rsize we we_len we_one wcf wswo 24 #[] b 0 c (arrW f n) w eg (fun m os dk _ x y => wcmp_any x y _) (holds_own o hp) h4 (by rw [arrW_size]; omega)
    rw [arrW_size] at h
    refine h.mono ?_
    rintro e w' ⟨rfl, d', m, os, hperm, hsort, rfl⟩
    have hp2 : Go.Sort.PermIn 0 (arrW f n).size (arrW f n) d' := by rw [arrW_size]; exact hperm
    obtain ⟨hs, ht⟩ := turned_perm hp2
    refine ⟨rfl, _, ht, fun i j hi hj => ?_, at_holds (Go.Proofs.holdsK_sortWorldK_c we 5 w b 0 (arrW f n) d' m os (holds_own o hp) h4 (by rw [hs, arrW_size])) hs (Nat.lt_of_lt_of_le h4 (Go.Proofs.size_sortWorldK_c we 5 w b 0 m d' os)), below_sort m os h3 h4⟩
    have := hsort i j (Nat.zero_le _) hi hj
    rw [wlt] at this
    simp at this
    exact this
end Go.Proofs.Ytcobenflfnmhgaa
