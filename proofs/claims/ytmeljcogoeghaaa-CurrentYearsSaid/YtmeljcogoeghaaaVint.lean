/- Package vintage: New, Left, Rows, Add, Expire, Take, Clone, as the laws meet them: a contract for each. -/
import Derived.Test.YtmeljcogoeghaaaRVint5
import Derived.Test.YtmeljcogoeghaaaSumLoop
import Derived.Test.YtmeljcogoeghaaaVnDel
import Derived.ScopeJumps
import Derived.WalkMore
import Derived.WalkKit
import Derived.WalkSpells
import Derived.WalkLawsBesides
import Derived.Lib.Hide
import Derived.IntWalk
import Derived.Deep.LoopGhost
namespace Go.Proofs.Ytmeljcogoeghaaa
open Go.RowKit

/-- the program's losses in a law's hands -/
abbrev NowV (w0 w : World) (O : Nat → Nat) (t sb : Nat) (S : Int → Int → Int) : Prop := NowL w0 w O t sb S
section
variable {w0 w w1 : World} {O O1 : Nat → Nat} {base t t' sb n m : Nat} {v v' : Value} {g h : Nat → Bk} {S : Int → Int → Int} {c y a : Int}
theorem NowV.below (h : NowV w0 w O t sb S) (k : Below w.heap.size w w1) : NowV w0 w1 O t sb S := NowL.below h k
theorem NowV.step (h : NowV w0 w O t sb S) (k : Step w0.heap.size O t' w O1 w1) (h1 : t ≠ t') (h2 : t' ≠ 0) : NowV w0 w1 O1 t sb S := NowL.step h k h1 h2
theorem NowV.told (h : NowV w0 w O t sb S) : ∃ n g, VInv S n g := NowL.told h
/-- rows of the object's own were written, or lie anew; they become the losses' -/
theorem LV.grows (s : LV w O base t sb v n g) (fn : Fin0 base O w) (hg : w.grownBy w1 v.ownBlock) (o : OwnR ve 3 w1 35 base v' m h) (hat : ∀ b, v'.ownBlock = some b → v.ownBlock = some b ∨ w.heap.size ≤ b) :
    ∃ O', LV (w1.setCell ⟨sb, 0, none⟩ v') O' base t sb v' m h ∧ Step base O t w O' (w1.setCell ⟨sb, 0, none⟩ v') := by
  have hv : ∀ b, v.ownBlock = some b → O b = t := fun b hb => (s.row.tag b hb).1
  have lt := s.hd.lt
  have hblk : w1.heap[sb]? = w.heap[sb]? := hg.block sb lt fun e => (s.row.tag sb e.symm).2 rfl
  have key : ∃ O1, Step base O t w O1 w1 ∧ O1 sb = O sb ∧ ∀ b, v'.ownBlock = some b → O1 b = t ∧ b ≠ sb := by
    cases e : v'.ownBlock with
    | none =>
      refine ⟨O, ⟨⟨hg.os, hg.tape, hg.output, hg.size, fun k hk hne => hg.block k hk fun q => hne (hv k q.symm)⟩, fun _ _ => rfl, fn.1, fun k hk => fn.2 k (Nat.le_trans hg.size hk)⟩, rfl, fun b hb => by cases hb⟩
    | some b =>
      have hl := World.ownsRow.lt o b e
      have hne : b ≠ sb := by
        rcases hat b e with q | q
        · exact (s.row.tag b q).2
        · omega
      refine ⟨mark O t b, ?_, mark_ne _ _ (fun q => hne q.symm), fun b' hb => by injection hb with hb; subst hb; exact ⟨mark_at _ _ _, hne⟩⟩
      rcases hat b e with q | q
      · exact Step.grown fn hg hv (H := w.heap.size) (.inl q) (Nat.le_refl _) hl.1 hl.2
      · exact Step.grown fn hg hv (H := b) (.inr rfl) q hl.1 hl.2
  obtain ⟨O1, st, ho, htag⟩ := key
  have hd1 : Head w1 O1 t sb [v] := s.hd.block hblk hg.size ho
  have k2 := Step.set (t := t) st.fin 0 v' hd1.tag
  exact ⟨O1, ⟨hd1.set 0 v' (by simp), ⟨own_blocks o fun b hb => Below.heap_setCell _ _ _ _ (htag b hb).2, htag⟩⟩, st.trans k2⟩
/-- what is left of one loss is written -/
theorem LV.put {b cc i : Nat} (s : LV w O base t sb (.slice (some ⟨b, 0, none⟩) n cc) n g) (fn : Fin0 base O w) (hi : i < n) (x : Int) :
    LV (w.setCell ⟨b, i * 3 + 2, none⟩ (.int .i64 x)) O base t sb (.slice (some ⟨b, 0, none⟩) n cc) n (repB g i ⟨(g i).c, (g i).y, x⟩) ∧ Step base O t w O (w.setCell ⟨b, i * 3 + 2, none⟩ (.int .i64 x)) := by
  have tg := s.row.tag b rfl
  have o := s.own.setc ve_len i 2 ⟨(g i).c, (g i).y, x⟩ (.int .i64 x) hi (by decide) (fun d hd => by
    match d, hd with
    | 0, _ => rfl
    | 1, _ => rfl
    | 2, h => exact absurd rfl h
    | d + 3, _ => rfl) rfl
  exact ⟨⟨s.hd.block (Below.heap_setCell _ _ _ _ (fun e => tg.2 e.symm)) (by simp) rfl, ⟨o, s.row.tag⟩⟩, Step.set fn _ _ tg.1⟩
theorem pvnew (w0 w : World) (O : Nat → Nat) (fn : Fin0 w0.heap.size O w) (lo : Below w0.heap.size w0 w) (t : Nat) :
    Calls Try.prog 9 #[] w fun e w' => ∃ sb O', e = .returned (ptr sb) ∧ NowV w0 w' O' t sb (fun _ _ => 0) ∧ ∀ t', Step w0.heap.size O t' w O' w' := by
  have HF := Lib.hid fn
  have HL := Lib.hid lo
  clear fn lo
  go_enter Try.func9, Try.ntmps9
  go_wp2
  go_ret
  obtain ⟨a, b⟩ := nowl_new w0 w O HF.out HL.out 64 t
  exact ⟨_, _, rfl, a, b⟩
theorem vleft (s : LV w O base t sb v n g) (hn : n ≤ 1000) (hg : ∀ j, j < n → Mon (g j).a) :
    Calls Try.prog 10 #[ptr sb] w fun e w' => e = .returned (.int .i64 (btot g n)) ∧ Below w.heap.size w w' := by
  have c0 := s.hd.c0
  obtain ⟨A, cc, rfl, hc, hm, _, ha⟩ := s.at
  have HA := Lib.hid ha
  have HG := Lib.hid hg
  clear s ha hg
  go_enter Try.func10, Try.ntmps10
  go_wp2
  go_loopg [3, 11] n (fun gh x i wr => ∃ k : Nat, k ≤ n ∧ gh = n - k ∧ i = .int .i64 k ∧ x = .int .i64 (btot g k) ∧ Below w.heap.size w wr)
  case atStart => exact ⟨0, Nat.zero_le _, rfl, rfl, rfl, Below.refl _ _⟩
  case round =>
    obtain ⟨k, hk, hgk, rfl, rfl, hbw⟩ := hrel
    have HGK := Lib.hid hgk
    have HW := Lib.hid hbw
    have tb := tot_bd (fun j => (g j).a) k fun j hj => HG.out j (by omega)
    obtain ⟨T, hT⟩ : ∃ T, btot g k = T := ⟨_, rfl⟩
    rw [show tot (fun j => (g j).a) k = T from hT] at tb
    rw [hT]
    have HT := Lib.hid hT
    clear hgk hbw hT
    by_cases hlt : k < n
    · obtain ⟨b, off, rfl, hb, c0, c1, c2⟩ := (HA.out.below HW.out).threeV hlt
      have hx := HG.out k hlt
      obtain ⟨x, hx'⟩ : ∃ x, (g k).a = x := ⟨_, rfl⟩
      rw [hx'] at c2 hx
      have HX := Lib.hid hx'
      clear hx'
      unfold Mon at hx
      obtain ⟨x1, x2⟩ := hx
      obtain ⟨t1, t2⟩ := tb
      have ew : IntKind.i64.wrap (T + x) = T + x := IntWalk.i64_in _ (by omega)
      clear t1 t2
      go_wp2
      go_roundg (n - (k + 1))
      case measure => have := HGK.out; omega
      case rel => exact ⟨k + 1, by omega, rfl, by go_num, by rw [← HT.out, ← HX.out]; rfl, HW.out.alloc HW.out.size _⟩
    · obtain rfl : k = n := by omega
      clear hlt tb
      go_wp2
      go_ret
      exact ⟨congrArg (fun x => Ending.returned (.int .i64 x)) HT.out.symm, HW.out⟩
theorem pvleft (h : NowV w0 w O t sb S) {m : Nat} {g' : Nat → Bk} (b : VIs S m g') :
    Calls Try.prog 10 #[ptr sb] w fun e w' => e = .returned (.int .i64 (btot g' m)) ∧ Below w.heap.size w w' := by
  obtain ⟨v, n, g, s, iv⟩ := h.st
  rw [← iv.is.total b]
  exact vleft s (by have := iv.le; omega) fun j hj => iv.mon hj
theorem pvrows (h : NowV w0 w O t sb S) {m : Nat} {g' : Nat → Bk} (b : VIs S m g') :
    Calls Try.prog 11 #[ptr sb] w fun e w' => ∃ A c, e = .returned (.slice A m c) ∧ m ≤ c ∧ c ≤ maxLen ∧ OwnR ve 3 w' 35 w.heap.size (.slice A m c) m g' ∧ Below w.heap.size w w' := by
  obtain ⟨v, n, g, s, iv⟩ := h.st
  obtain ⟨rfl, he⟩ := iv.is.uniq b
  have hn := iv.le
  have c0 := s.hd.c0
  obtain ⟨A, cc, rfl, hc, hm, _, ha⟩ := s.at
  have C1 := Lib.hid (vclone _ n _ g w s.own (by omega))
  have HE := Lib.hid he
  clear s ha iv h b he
  go_enter Try.func11, Try.ntmps11
  go_wp2_with fail
  refine (C1.out).mono ?_
  rintro e w1 ⟨v1, rfl, ho, hb1⟩
  obtain ⟨A1, c1, rfl, h1, h2, _⟩ := ho.form
  go_wp2
  go_ret
  exact ⟨_, _, rfl, h1, h2, ho.ext HE.out, hb1⟩
theorem pvclone (h : NowV w0 w O t sb S) (t' : Nat) :
    Calls Try.prog 26 #[ptr sb] w fun e w' => ∃ sb' O', e = .returned (ptr sb') ∧ NowV w0 w' O' t' sb' S ∧ ∀ t2, Step w0.heap.size O t2 w O' w' := by
  have HF := Lib.hid h.fin
  have HL := Lib.hid h.low
  obtain ⟨n, g, iv⟩ := h.told
  have HI := Lib.hid iv
  have C1 := Lib.hid (pvrows h iv.is)
  clear h iv
  go_enter Try.func26, Try.ntmps26
  go_wp2_with fail
  refine (C1.out).mono ?_
  rintro e w5 ⟨A5, c5, rfl, _, _, ho, hb⟩
  have HO5 := Lib.hid ho
  have K4 := Lib.hid hb
  clear ho hb C1
  go_wp2
  go_ret
  obtain ⟨O1, m1, st1⟩ := fresh_marked HF.out HL.out.size K4.out HO5.out t'
  have z5 : w0.heap.size ≤ w5.heap.size := Nat.le_trans HL.out.size K4.out.size
  refine ⟨w5.heap.size, mark O1 t' w5.heap.size, rfl, ⟨⟨_, n, g, ⟨Head.new w5 O1 t' _ _, ⟨own_mono (World.ownsRow.alloc HO5.out _) HL.out.size, fun b hb => ?_⟩⟩, HI.out⟩, (Step.made (t := t') (st1 0).fin z5 (.cells #[.slice A5 n c5] 64) 0).fin, (HL.out.trans (K4.out.mono HL.out.size)).alloc z5 _⟩, fun t2 => (st1 t2).trans (Step.made (st1 t2).fin z5 _ t2)⟩
  have := m1 b hb
  exact ⟨(mark_ne _ _ (by omega)).trans this.1, by omega⟩
theorem vright_yes (c y : Int) (w : World) (h : VOk c y) : Calls Try.prog 34 #[.int .i64 y, .int .i64 c] w fun e w' => e = .returned (.bool true) ∧ w = w' := by
  obtain ⟨h1, h2, h3, h4⟩ := h
  go_enter Try.func34, Try.ntmps34
  go_wp2
  all_goals
    go_ret
    exact ⟨ret_b (by first | rfl | (simp; omega)), rfl⟩
theorem vright_no (c y : Int) (w : World) (h : ¬ VOk c y) : Calls Try.prog 34 #[.int .i64 y, .int .i64 c] w fun e w' => e = .returned (.bool false) ∧ w = w' := by
  unfold VOk at h
  rcases (show y < 0 ∨ (0 ≤ y ∧ 99 < y) ∨ (0 ≤ y ∧ y ≤ 99 ∧ c < y) ∨ (0 ≤ y ∧ y ≤ 99 ∧ y ≤ c ∧ 198 < c) by omega) with q | ⟨q1, q2⟩ | ⟨q1, q2, q3⟩ | ⟨q1, q2, q3, q4⟩
  all_goals
    clear h
    go_enter Try.func34, Try.ntmps34
    go_wp2
    all_goals
      go_ret
      exact ⟨ret_b (by first | rfl | (simp; omega)), rfl⟩
theorem vmny_yes (n : Int) (w : World) (h : Mon n) : Calls Try.prog 35 #[.int .i64 n] w fun e w' => e = .returned (.bool true) ∧ w = w' := money_yes n w h.1 h.2
theorem vmny_no (n : Int) (w : World) (h : ¬ Mon n) : Calls Try.prog 35 #[.int .i64 n] w fun e w' => e = .returned (.bool false) ∧ w = w' := money_no n w (by unfold Mon at h; omega)
theorem vfind (s : LV w O base t sb v n g) (hb : VRow n g) (hn : n ≤ 1000000) (c y : Int) :
    Calls Try.prog 37 #[ptr sb, .int .i64 y, .int .i64 c] w fun e w' => ∃ (p : Nat) (f : Bool), e = .returned (.tuple #[.int .i64 p, .bool f]) ∧ VAt n g ⟨c, y, 0⟩ p f ∧ Below w.heap.size w w' := by
  have c0 := s.hd.c0
  obtain ⟨A, cc, rfl, hc, hm, _, ha⟩ := s.at
  have C1 := Lib.hid (vsearch_any A n cc g ⟨c, y, 0⟩ w ha hb hn hc)
  clear s ha hb
  go_enter Try.func37, Try.ntmps37
  go_wp2_with (go_at_call 57; (refine (C1.out).mono ?_); rintro e w' ⟨p, f, rfl, hp, hb⟩)
  go_ret2
  exact ⟨p, f, rfl, hp, hb⟩
end
end Go.Proofs.Ytmeljcogoeghaaa
