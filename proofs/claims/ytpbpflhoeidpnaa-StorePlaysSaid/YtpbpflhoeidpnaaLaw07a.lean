/- The document's example of chapter 7; StoreErrors: its walk. -/
import Derived.Test.YtpbpflhoeidpnaaStore6
import Derived.Test.YtpbpflhoeidpnaaLaw06a
import Derived.WalkKit
import Derived.WalkSpells
import Derived.WalkLawsBesides
import Derived.Lib.Hide
import Derived.Deep.LoopGhost
namespace Go.Proofs.Ytpbpflhoeidpnaa
open Go.RowKit

theorem sm_two (a x y m n : Int) : sm a (two x y) (two m n) 2 = (if x = a then m else 0) + (if y = a then n else 0) := by simp [sm, tot, two]
theorem bal_0 (js : Nat → Jn) (ent : ByteArray) (a u : Int) : bal js 0 ent a u = 0 := rfl
theorem perr_prov {js : Nat → Jn} {n : Nat} {ent : ByteArray} {p : Int} {m : Nat} {ga gm : Nat → Int} (h1 : ent ≠ ⟨#[]⟩) (h2 : 0 ≤ p) (h3 : p ≤ 399) (h4 : Good m ga gm) (h5 : n < 200) (h6 : ∀ i, i < m → Mon (bal js n ent (ga i) 399 + gm i)) : PErr js n ent p 1 0 m ga gm 0 :=
  .ok1 ⟨h1, h2, h3, .inr ⟨rfl, rfl⟩⟩ rfl h4 h5 fun ⟨i, hi, h⟩ => h (h6 i hi)
/-- a store that the law made, of which something is told -/
structure Now (w0 : World) (w : World) (O : Nat → Nat) (t sb n : Nat) (js : Nat → Jn) : Prop where
  st : St w O w0.heap.size t sb n js
  fin : Fin0 w0.heap.size O w
  low : Below w0.heap.size w0 w
theorem Now.below {w0 w w1 : World} {O : Nat → Nat} {t sb n : Nat} {js : Nat → Jn} (h : Now w0 w O t sb n js) (k : Below w.heap.size w w1) : Now w0 w1 O t sb n js :=
  ⟨h.st.below k, h.fin.below k, h.low.trans (k.mono h.low.size)⟩
theorem Now.step {w0 w w1 : World} {O O1 : Nat → Nat} {t t1 sb n : Nat} {js : Nat → Jn} (h : Now w0 w O t sb n js) (k : Step w0.heap.size O t1 w O1 w1) (h1 : t ≠ t1) (h2 : t1 ≠ 0) : Now w0 w1 O1 t sb n js :=
  ⟨h.st.step k h1 h2, k.fin, h.low.trans (k.below h.fin h2 h.low.size)⟩
theorem now_new (w0 w : World) (O : Nat → Nat) (f : Fin0 w0.heap.size O w) (h : Below w0.heap.size w0 w) (t : Nat) (T : TypeId) (js : Nat → Jn) : ∃ O', Now w0 (w.alloc (.cells #[.slice none 0 0] T)) O' t w.heap.size 0 js ∧ ∀ t', Step w0.heap.size O t' w O' (w.alloc (.cells #[.slice none 0 0] T)) := by
  obtain ⟨O', s, k⟩ := St.new f h.size (t := t) T js
  exact ⟨O', ⟨s, (k 1).fin, h.alloc h.size _⟩, k⟩
/-- a journal that is taken -/
theorem lpost_ok {w0 w : World} {O : Nat → Nat} {t sb n : Nat} {js : Nat → Jn} (h : Now w0 w O t sb n js) (ht : t ≠ 0) (ent : ByteArray) (p kd of : Int) (m : Nat) (ga gm : Nat → Int) (l : Value) (hl : SomeL l w m ga gm) (hp : PErr js n ent p kd of m ga gm 0) :
    Calls Try.prog 14 #[ptr sb, .string ent, .int .i64 p, .int .i64 kd, .int .i64 of, l] w fun r w' => r = .returned (.tuple #[.int .i64 ((n : Int) + 1), .int .i64 0]) ∧
      ∃ O', Now w0 w' O' t sb (n + 1) (pushJ js n ⟨(n : Int) + 1, ent, p, kd, of, m, ga, gm⟩) ∧ Step w0.heap.size O t w O' w' := by
  obtain ⟨v, L, s⟩ := h.st
  refine (post_ok s h.fin ht h.low.size ent p kd of m ga gm l hl hp).mono ?_
  rintro r w' ⟨rfl, O', a, b⟩
  exact ⟨rfl, O', ⟨a, b.fin, h.low.trans (b.below h.fin ht h.low.size)⟩, b⟩
theorem lpost_no {w0 w : World} {O : Nat → Nat} {t sb n : Nat} {js : Nat → Jn} (h : Now w0 w O t sb n js) (ent : ByteArray) (p kd of : Int) (m : Nat) (ga gm : Nat → Int) (l : Value) (e : Int) (hl : SomeL l w m ga gm) (hln : m ≤ 1000000) (hp : PErr js n ent p kd of m ga gm e) (he : e ≠ 0) :
    Calls Try.prog 14 #[ptr sb, .string ent, .int .i64 p, .int .i64 kd, .int .i64 of, l] w fun r w' => r = .returned (.tuple #[.int .i64 0, .int .i64 e]) ∧ Below w.heap.size w w' := by
  obtain ⟨v, L, s⟩ := h.st
  exact post_no s ent p kd of m ga gm l e hl hln hp he
theorem lbal {w0 w : World} {O : Nat → Nat} {t sb n : Nat} {js : Nat → Jn} (h : Now w0 w O t sb n js) (ent : ByteArray) (a u x : Int) (hx : bal js n ent a u = x) :
    Calls Try.prog 17 #[ptr sb, .string ent, .int .i64 a, .int .i64 u] w fun e w' => e = .returned (.int .i64 x) ∧ Below w.heap.size w w' := by
  obtain ⟨v, L, s⟩ := h.st
  rw [← hx]; exact balance_any s ent a u
theorem ltrial {w0 w : World} {O : Nat → Nat} {t sb n : Nat} {js : Nat → Jn} (h : Now w0 w O t sb n js) (ent : ByteArray) (u : Int) (S : Int → Int) (hS : ∀ a, bal js n ent a u = S a) :
    Calls Try.prog 18 #[ptr sb, .string ent, .int .i64 u] w fun e w' => ∃ v, e = .returned v ∧ OwnL w' 26 w.heap.size v (mc S 7) (ma S 7) (mm S 7) ∧ Below w.heap.size w w' := by
  obtain ⟨v, L, s⟩ := h.st
  exact trial_any s ent u S hS
theorem ljournals {w0 w : World} {O : Nat → Nat} {t sb n : Nat} {js : Nat → Jn} (h : Now w0 w O t sb n js) :
    Calls Try.prog 15 #[ptr sb] w fun e w' => e = .returned (.slice (some ⟨w.heap.size, 0, none⟩) n n) ∧ (∃ L', Told w w' n L' js) ∧ Below w.heap.size w w' := by
  obtain ⟨v, L, s⟩ := h.st
  exact journals_any s
theorem lit_some (w : World) (xs : Array Value) (t : TypeId) (b n : Nat) (ga gm : Nat → Int) (h : w.heap.size = b) (e : xs.toList = (List.range (n * 2)).map (lc ga gm)) (hn : n ≤ maxLen) : SomeL (.slice (some ⟨b, 0, none⟩) n n) (w.alloc (.cells xs t)) n ga gm :=
  ⟨_, n, rfl, Nat.le_refl _, hn, (fun h => by cases h), lit_l w xs t b n ga gm h e⟩
def sa : ByteArray := ⟨#[97]⟩
def sbb : ByteArray := ⟨#[98]⟩
set_option maxHeartbeats 4000000 in
theorem wakes7_any (w : World) : Calls Try.prog 16 #[] w fun e w' => e = .returned (.bool true) ∧ Below w.heap.size w w' := by
  go_enter Try.func16, Try.ntmps16
  go_wp2_with fail
  refine (new_any _).mono ?_
  rintro e w1 ⟨rfl, rfl⟩
  obtain ⟨O1, nw, _⟩ := now_new w w (fun _ => 0) (Fin0.zero _ _) (Below.refl _ _) 1 73 (fun _ => jz)
  have N1 := Lib.hid nw
  clear nw
  go_wp2_with fail
  refine (ljournals N1.out).mono ?_
  rintro e w2 ⟨rfl, _, hb2⟩
  have N2 := Lib.hid (N1.out.below hb2)
  clear hb2
  go_wp2_with fail
  have LL := lit_some w2 #[.int .i64 1, .int .i64 5, .int .i64 2, .int .i64 (-5)] 26 w2.heap.size 2 (two 1 2) (two 5 (-5)) rfl rfl (by unfold maxLen; omega)
  have N3 := Lib.hid (N2.out.below ((Below.refl _ _).alloc (Nat.le_refl _) (.cells #[.int .i64 1, .int .i64 5, .int .i64 2, .int .i64 (-5)] 26)))
  refine (lpost_ok N3.out (by decide) ⟨#[97]⟩ 1 1 0 2 (two 1 2) (two 5 (-5)) _ LL (perr_prov (by decide) (by omega) (by omega) (good_two (by omega) (by omega) (by omega) (by omega) (by unfold Mon; omega) (by omega)) (by omega) fun i hi => by
    rw [bal_0]; rcases (show i = 0 ∨ i = 1 by omega) with rfl | rfl <;> (unfold two Mon; decide))).mono ?_
  rintro e w4 ⟨rfl, O4, n4, _⟩
  have N4 := Lib.hid n4
  have HB : Hid (bal (pushJ (fun _ => jz) 0 ⟨((0 : Nat) : Int) + 1, ⟨#[97]⟩, 1, 1, 0, 2, two 1 2, two 5 (-5)⟩) (0 + 1) ⟨#[97]⟩ 1 1 = 5) := Lib.hid (by
    rw [bal_push, bal_0]; unfold jb; rw [if_pos ⟨rfl, by decide⟩]; show 0 + sm 1 (two 1 2) (two 5 (-5)) 2 = 5; rw [sm_two]; decide)
  clear n4 LL
  go_wp2_with fail
  refine (lbal N4.out ⟨#[97]⟩ 1 1 5 HB.out).mono ?_
  rintro e w5 ⟨rfl, hb5⟩
  have HL := Lib.hid (N4.out.low.trans (hb5.mono N4.out.low.size))
  clear hb5
  go_wp2
  go_ret
  exact ⟨rfl, HL.out⟩
end Go.Proofs.Ytpbpflhoeidpnaa
