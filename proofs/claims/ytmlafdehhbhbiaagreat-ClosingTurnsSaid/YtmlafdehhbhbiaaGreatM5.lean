/- Several texts of mine in one: RBucket Cmp BkCmp RBucket2 RBucket3 RBucket4 RBucket5 RBucket6. -/
import Derived.Test.YtmlafdehhbhbiaaGreatRows
import Derived.Test.YtmlafdehhbhbiaaGreatM2
import Derived.WalkKit
import Derived.WalkSpells
import Derived.WalkLawsBesides
import Derived.Lib.Hide
import Derived.IntWalk
import Derived.Deep.LoopGhost
import Derived.Test.YtmlafdehhbhbiaaGreatM1
import Derived.Deep.QuietTactic
import Derived.BigQuiet
import Derived.Deep.RegionHeld3
import Derived.Laws.StructEq
/- The document's own register of buckets: Get, Total, Copy, set: a contract for each. -/
namespace Go.Proofs.YtmlafdehhbhbiaaGreat
open Go.RowKit
def be (x : Bk) : List Value := [.int .i64 x.c, .int .i64 x.y, .int .i64 x.a]
theorem be_len (x : Bk) : (be x).length = 3 := rfl
theorem be_one (x : Bk) : ∀ u ∈ be x, u.oneCell' = true := by
 intro u hu
 unfold be at hu
 simp only [List.mem_cons, List.not_mem_nil, or_false] at hu
 rcases hu with rfl | rfl | rfl <;> rfl
theorem bk_info : (Tryz.prog.info? 81).map (fun i => (i.zero, i.size, i.bytes)) = some (some (.agg #[.int .i64 0, .int .i64 0, .int .i64 0]), 3, 24) := by kernel_rfl
theorem bk_type : Tryz.prog.underlying 32 = some (.slice 81) := Tryz.underlying32
structure BV (w : World) (O : Nat → Nat) (base t sb : Nat) (v : Value) (n : Nat) (g : Nat → Bk) : Prop where
 hd : Head w O t sb [v]
 row : RowT w O base t sb 81 3 v n (rl be g n)
section
variable {w w1 : World} {O O1 : Nat → Nat} {base t t' sb n : Nat} {v : Value} {g : Nat → Bk} {S : Int → Int → Int}
theorem BV.below (s : BV w O base t sb v n g) (k : Below w.heap.size w w1) : BV w1 O base t sb v n g := ⟨s.hd.below k, s.row.below k⟩
theorem BV.step (s : BV w O base t sb v n g) (k : Step base O t' w O1 w1) (h : t ≠ t') : BV w1 O1 base t sb v n g := ⟨s.hd.step k h, s.row.step k h⟩
theorem BV.own (s : BV w O base t sb v n g) : OwnR be 3 w 81 base v n g := s.row.own
theorem BV.new (fn : Fin0 base O w) (hb : base ≤ w.heap.size) (T : TypeId) (g : Nat → Bk) :
   BV (w.alloc (.cells #[.slice none 0 0] T)) (mark O t w.heap.size) base t w.heap.size (.slice none 0 0) 0 g ∧ ∀ t', Step base O t' w (mark O t w.heap.size) (w.alloc (.cells #[.slice none 0 0] T)) :=
 ⟨⟨Head.new w O t _ T, RowT.nil _ _ _ _ _ _ _⟩, fun t' => Step.made fn hb _ t'⟩
theorem BV.at (s : BV w O base t sb v n g) : ∃ A c, v = .slice A n c ∧ n ≤ c ∧ c ≤ maxLen ∧ (A = none → n = 0 ∧ c = 0) ∧ AtR be 3 w A n g := s.own.at be_len
theorem AtR.three {A : Option Addr} (r : AtR be 3 w A n g) {k : Nat} (hk : k < n) : ∃ b off, A = Option.some ⟨b, off, none⟩ ∧ b < w.heap.size ∧ w.cell? ⟨b, off + k * 3, none⟩ = Option.some (.int .i64 (g k).c) ∧ w.cell? ⟨b, off + k * 3 + 1, none⟩ = Option.some (.int .i64 (g k).y) ∧ w.cell? ⟨b, off + k * 3 + 2, none⟩ = Option.some (.int .i64 (g k).a) := by
 obtain ⟨b, off, e, hb, hc⟩ := r.some (by omega)
 exact ⟨b, off, e, hb, hc k hk 0 _ rfl, hc k hk 1 _ rfl, hc k hk 2 _ rfl⟩
theorem rbget (s : BV w O base t sb v n g) (b : BIs S n g) (hn : n ≤ 1000) (c y : Int) :
   Calls Tryz.prog 51 #[ptr sb, .int .i64 c, .int .i64 y] w fun e w' => e = .returned (.int .i64 (S c y)) ∧ Below w.heap.size w w' := by
 have c0 := s.hd.c0
 obtain ⟨A, cc, rfl, hc, hm, _, ha⟩ := s.at
 have HA := Lib.hid ha
 have HB := Lib.hid b
 obtain ⟨V, hV⟩ : ∃ V, S c y = V := ⟨_, rfl⟩
 rw [hV]
 have HV := Lib.hid hV
 clear s ha b hV
 go_enter Tryz.func51, Tryz.ntmps51
 go_wp2
 go_loopg [14] n (fun gh i wr => ∃ k : Nat, k ≤ n ∧ gh = n - k ∧ i = .int .i64 k ∧ (∀ j, j < k → ¬ ((g j).c = c ∧ (g j).y = y)) ∧ Below w.heap.size w wr)
 case atStart => exact ⟨0, Nat.zero_le _, rfl, rfl, fun j hj => absurd hj (Nat.not_lt_zero _), Below.refl _ _⟩
 case round =>
   obtain ⟨k, hk, hgk, rfl, h0, hbw⟩ := hrel
   have HGK := Lib.hid hgk
   have HW := Lib.hid hbw
   have H0 := Lib.hid h0
   clear hgk hbw h0
   by_cases hlt : k < n
   · obtain ⟨b, off, rfl, hb, c0, c1, c2⟩ := (HA.out.below HW.out).three hlt
     by_cases hcc : (g k).c = c ∧ (g k).y = y
     · have HE : Hid ((g k).a = V) := Lib.hid (by rw [← HV.out, ← HB.out.at hlt, hcc.1, hcc.2])
       have p1 : ((g k).c == c) = true := by simpa using hcc.1
       have p2 : ((g k).y == y) = true := by simpa using hcc.2
       clear hcc
       go_wp2
       go_ret
       exact ⟨congrArg (fun x => Ending.returned (.int .i64 x)) HE.out, HW.out.alloc HW.out.size _⟩
     · have HN := Lib.hid hcc
       rcases (show ((g k).c == c) = false ∨ (((g k).c == c) = true ∧ ((g k).y == y) = false) from by
           by_cases q1 : (g k).c = c
           · exact .inr ⟨by simpa using q1, by simpa using fun q2 => hcc ⟨q1, q2⟩⟩
           · exact .inl (by simpa using q1)) with p1 | ⟨p1, p2⟩
       all_goals
         clear hcc
         go_wp2
         go_roundg (n - (k + 1))
         case measure => have := HGK.out; omega
         case rel => exact ⟨k + 1, by omega, rfl, by go_num, fun j hj => by
             by_cases e : j = k
             · rw [e]; exact HN.out
             · exact H0.out j (by omega), HW.out.alloc HW.out.size _⟩
   · obtain rfl : k = n := by omega
     clear hlt
     have HE : Hid (0 = V) := Lib.hid (by rw [← HV.out, ← HB.out.2, bget_none H0.out])
     go_wp2
     go_ret
     exact ⟨congrArg (fun x => Ending.returned (.int .i64 x)) HE.out, HW.out⟩
theorem rbtotal (s : BV w O base t sb v n g) (hn : n ≤ 1000) (hg : ∀ j, j < n → Mon (g j).a) :
   Calls Tryz.prog 52 #[ptr sb] w fun e w' => e = .returned (.int .i64 (btot g n)) ∧ Below w.heap.size w w' := by
 have c0 := s.hd.c0
 obtain ⟨A, cc, rfl, hc, hm, _, ha⟩ := s.at
 have HA := Lib.hid ha
 have HG := Lib.hid hg
 clear s ha hg
 go_enter Tryz.func52, Tryz.ntmps52
 go_wp2
 go_loopg [3, 11] n (fun gh x i wr => ∃ k : Nat, k ≤ n ∧ gh = n - k ∧ i = .int .i64 k ∧ x = .int .i64 (btot g k) ∧ Below w.heap.size w wr)
 case atStart => exact ⟨0, Nat.zero_le _, rfl, rfl, rfl, Below.refl _ _⟩
 case round =>
   obtain ⟨k, hk, hgk, rfl, rfl, hbw⟩ := hrel
   have HGK := Lib.hid hgk
   have HW := Lib.hid hbw
   have tb := tot_bd (fun j => (g j).a) k fun j hj => HG.out j (by omega)
   obtain ⟨T, hT⟩ : ∃ T, btot g k = T := ⟨_, rfl⟩
   rw [show tot (fun j => (g j).a) k = T from hT] at tb
   rw [hT]
   have HT := Lib.hid hT
   clear hgk hbw hT
   by_cases hlt : k < n
   · obtain ⟨b, off, rfl, hb, c0, c1, c2⟩ := (HA.out.below HW.out).three hlt
     have hx := HG.out k hlt
     obtain ⟨x, hx'⟩ : ∃ x, (g k).a = x := ⟨_, rfl⟩
     rw [hx'] at c2 hx
     have HX := Lib.hid hx'
     clear hx'
     unfold Mon at hx
     obtain ⟨x1, x2⟩ := hx
     obtain ⟨t1, t2⟩ := tb
     have ew : IntKind.i64.wrap (T + x) = T + x := IntWalk.i64_in _ (by omega)
     clear t1 t2
     go_wp2
     go_roundg (n - (k + 1))
     case measure => have := HGK.out; omega
     case rel => exact ⟨k + 1, by omega, rfl, by go_num, by rw [← HT.out, ← HX.out]; rfl, HW.out.alloc HW.out.size _⟩
   · obtain rfl : k = n := by omega
     clear hlt tb
     go_wp2
     go_ret
     exact ⟨congrArg (fun x => Ending.returned (.int .i64 x)) HT.out.symm, HW.out⟩
theorem rbcopy (s : BV w O base t sb v n g) (hn : n ≤ 1000) {base2 : Nat} {O2 : Nat → Nat} (fn : Fin0 base2 O2 w) (hb : base2 ≤ w.heap.size) (t' : Nat) :
   Calls Tryz.prog 53 #[ptr sb] w fun e w' => ∃ v' sb' O', e = .returned (ptr sb') ∧ BV w' O' base2 t' sb' v' n g ∧ w.heap.size ≤ sb' ∧ ∀ t2, Step base2 O2 t2 w O' w' := by
 obtain ⟨i0, hi, hz0, hz1, hz2⟩ := info_parts bk_info
 have c0 := s.hd.c0
 obtain ⟨A, cc, rfl, hc, hm, _⟩ := s.row.form
 have HS := Lib.hid s
 have HF := Lib.hid fn
 clear s fn
 go_enter Tryz.func53, Tryz.ntmps53
 go_wp2_with (at_builtin; (refine wpList_app_row rfl (.const (.slice none 0 0)) (.tmp 6) rfl bk_type hi hz0 hz1 hz2 rfl (by decide) w w.heap.size base 0 n cc _ _ [] _ rfl rfl (World.ownsRow_nil _ _ _ _) HS.out.row.own (rl_one be_one) (by unfold maxLen; omega) (by omega) (Below.refl _ _) (Nat.le_refl _) ?_; intro v1 w5 ho1 hb1 hg1; rw [Nat.zero_add, List.nil_append] at ho1; obtain ⟨A5, c5, rfl, _, _, _⟩ := own_form ho1; have HO5 := Lib.hid ho1; have K4 := Lib.hid hb1; clear ho1 hb1 hg1))
 go_ret
 obtain ⟨O1, m1, st1⟩ := fresh_marked HF.out hb K4.out HO5.out t'
 have z5 : base2 ≤ w5.heap.size := Nat.le_trans hb K4.out.size
 refine ⟨_, w5.heap.size, mark O1 t' w5.heap.size, rfl, ⟨Head.new w5 O1 t' _ _, ⟨own_mono (World.ownsRow.alloc HO5.out _) hb, fun b hb => ?_⟩⟩, K4.out.size, fun t2 => (st1 t2).trans (Step.made (st1 t2).fin z5 _ t2)⟩
 have := m1 b hb
 exact ⟨(mark_ne _ _ (by omega)).trans this.1, by omega⟩
end
end Go.Proofs.YtmlafdehhbhbiaaGreat
/- cmp.isNaN, cmp.Compare, cmp.Or of two numbers, walked: a contract for each. -/
namespace Go.Proofs.YtmlafdehhbhbiaaGreat
open Go.RowKit
set_option maxRecDepth 100000 in
theorem isnan_any (n : Int) (w : World) : Calls Tryz.prog 154 #[.int .i64 n] w fun e w' => e = .returned (.bool false) ∧ w = w' := by
 have p : (n != n) = false := by simp
 go_enter Tryz.func154, Tryz.ntmps154
 go_wp2
 go_ret
 exact ⟨rfl, rfl⟩
def cmpc (a b : Int) : Int := if a < b then -1 else if b < a then 1 else 0
set_option maxRecDepth 100000 in
theorem cmpi_any (a b : Int) (w : World) : Calls Tryz.prog 147 #[.int .i64 a, .int .i64 b] w fun e w' => e = .returned (.int .i64 (cmpc a b)) ∧ w = w' := by
 rcases (show a < b ∨ (¬ a < b ∧ b < a) ∨ (¬ a < b ∧ ¬ b < a) by omega) with h | ⟨h1, h2⟩ | ⟨h1, h2⟩
 · have e : Hid (-1 = cmpc a b) := Lib.hid (by unfold cmpc; rw [if_pos h])
   go_enter Tryz.func147, Tryz.ntmps147
   go_wp2_with (go_at_call 154; (with_reducible refine (isnan_any _ _).mono ?_); rintro e w' ⟨rfl, rfl⟩)
   go_ret
   exact ⟨ret_i e.out, rfl⟩
 · have e : Hid (1 = cmpc a b) := Lib.hid (by unfold cmpc; rw [if_neg h1, if_pos h2])
   go_enter Tryz.func147, Tryz.ntmps147
   go_wp2_with (go_at_call 154; (with_reducible refine (isnan_any _ _).mono ?_); rintro e w' ⟨rfl, rfl⟩)
   go_ret
   exact ⟨ret_i e.out, rfl⟩
 · have e : Hid (0 = cmpc a b) := Lib.hid (by unfold cmpc; rw [if_neg h1, if_neg h2])
   go_enter Tryz.func147, Tryz.ntmps147
   go_wp2_with (go_at_call 154; (with_reducible refine (isnan_any _ _).mono ?_); rintro e w' ⟨rfl, rfl⟩)
   go_ret
   exact ⟨ret_i e.out, rfl⟩
def orc (p q : Int) : Int := if p = 0 then q else p
set_option maxRecDepth 100000 in
theorem cmpor_any (X : Nat) (p q : Int) (w : World) (c0 : w.cell? ⟨X, 0, none⟩ = some (.int .i64 p)) (c1 : w.cell? ⟨X, 1, none⟩ = some (.int .i64 q)) :
   Calls Tryz.prog 146 #[.slice (some ⟨X, 0, none⟩) 2 2] w fun e w' => e = .returned (.int .i64 (orc p q)) ∧ Below w.heap.size w w' := by
 have HR := Lib.hid (rfl : orc p q = orc p q)
 unfold orc at HR
 go_enter Tryz.func146, Tryz.ntmps146
 go_wp2
 go_loopg [8] 2 (fun gh i wr => ∃ k : Nat, k ≤ 2 ∧ gh = 2 - k ∧ i = .int .i64 k ∧ (1 ≤ k → p = 0) ∧ (2 ≤ k → q = 0) ∧ Below w.heap.size w wr)
 case atStart => exact ⟨0, by omega, rfl, rfl, by omega, by omega, Below.refl _ _⟩
 case round =>
   obtain ⟨k, hk, hgk, rfl, h1, h2, hbw⟩ := hrel
   have HGK := Lib.hid hgk
   have HB := Lib.hid hbw
   have H1 := Lib.hid h1
   have H2 := Lib.hid h2
   have d0 := cell_keep c0 hbw
   have d1 := cell_keep c1 hbw
   clear hgk hbw h1 h2
   obtain rfl | rfl | rfl : k = 0 ∨ k = 1 ∨ k = 2 := by omega
   · by_cases hp : p = 0
     · subst hp
       go_wp2
       go_roundg 1
       case measure => have := HGK.out; omega
       case rel => exact ⟨1, by omega, rfl, by go_num, by simp, fun h => by omega, HB.out⟩
     · have HP : Hid (p = orc p q) := Lib.hid (by unfold orc; rw [if_neg hp])
       have hp' : (p != 0) = true := by simpa using hp
       clear hp
       go_wp2
       go_ret
       exact ⟨ret_i HP.out, HB.out⟩
   · have hp0 := H1.out (by omega)
     by_cases hp : q = 0
     · subst hp
       go_wp2
       go_roundg 0
       case measure => have := HGK.out; omega
       case rel => exact ⟨2, by omega, rfl, by go_num, fun _ => H1.out (by omega), by simp, HB.out⟩
     · have HP : Hid (q = orc p q) := Lib.hid (by unfold orc; rw [if_pos hp0])
       have hp' : (q != 0) = true := by simpa using hp
       clear hp hp0
       go_wp2
       go_ret
       exact ⟨ret_i HP.out, HB.out⟩
   · have HP : Hid (0 = orc p q) := Lib.hid (by unfold orc; rw [if_pos (H1.out (by omega)), H2.out (by omega)])
     go_wp2
     go_ret
     exact ⟨ret_i HP.out, HB.out⟩
end Go.Proofs.YtmlafdehhbhbiaaGreat
/- Package bucket: how two buckets compare; where one stands among others (cmp.Compare, cmp.Or, slices.BinarySearchFunc walked): a contract for each. -/
namespace Go.Proofs.YtmlafdehhbhbiaaGreat
open Go.RowKit
abbrev ba (x : Bk) : Value := .agg #[.int .i64 x.c, .int .i64 x.y, .int .i64 x.a]
def bkc (x z : Bk) : Int := orc (cmpc x.c z.c) (cmpc x.y z.y)
set_option maxRecDepth 100000 in
theorem bkc_neg {x z : Bk} : bkc x z < 0 ↔ Bl x.c x.y z.c z.y := by unfold bkc orc Bl cmpc; split <;> (repeat' split) <;> omega
set_option maxRecDepth 100000 in
theorem bkc_zero {x z : Bk} : bkc x z = 0 ↔ x.c = z.c ∧ x.y = z.y := by unfold bkc orc cmpc; split <;> (repeat' split) <;> omega
set_option maxRecDepth 100000 in
set_option maxHeartbeats 2000000 in
theorem bcmp_any (x z : Bk) (w : World) : Calls Tryz.prog 123 #[ba x, ba z] w fun e w' => e = .returned (.int .i64 (bkc x z)) ∧ Below w.heap.size w w' := by
 obtain ⟨xc, xy, xa⟩ := x
 obtain ⟨zc, zy, za⟩ := z
 simp only [ba, bkc] at *
 go_enter Tryz.func123, Tryz.ntmps123
 go_wp2
 obtain ⟨w1, hw1⟩ : ∃ w1, w1 = (w.alloc (.cells #[.int .i64 xc, .int .i64 xy, .int .i64 xa] 81)).alloc (.cells #[.int .i64 zc, .int .i64 zy, .int .i64 za] 81) := ⟨_, rfl⟩
 have hs : w1.heap.size = w.heap.size + 2 := by rw [hw1]; simp
 have HB1 : Hid (Below w.heap.size w w1) := Lib.hid (by rw [hw1]; exact ((Below.refl _ _).alloc (Nat.le_refl _) _).alloc (by simp) _)
 have N1 := rec_lit w [.int .i64 xc, .int .i64 xy, .int .i64 xa] 81 w.heap.size rfl
 have N2 := rec_lit (w.alloc (.cells #[.int .i64 xc, .int .i64 xy, .int .i64 xa] 81)) [.int .i64 zc, .int .i64 zy, .int .i64 za] 81 (w.heap.size + 1) (by simp)
 have x0 : w1.cell? ⟨w.heap.size, 0, none⟩ = some (.int .i64 xc) := by rw [hw1]; exact cell_keep (N1 0 _ rfl) ((Below.refl _ _).alloc (Nat.le_refl _) _)
 have x1 : w1.cell? ⟨w.heap.size, 1, none⟩ = some (.int .i64 xy) := by rw [hw1]; exact cell_keep (N1 1 _ rfl) ((Below.refl _ _).alloc (Nat.le_refl _) _)
 have z0 : w1.cell? ⟨w.heap.size + 1, 0, none⟩ = some (.int .i64 zc) := by rw [hw1]; exact N2 0 _ rfl
 have z1 : w1.cell? ⟨w.heap.size + 1, 1, none⟩ = some (.int .i64 zy) := by rw [hw1]; exact N2 1 _ rfl
 rw [← hw1]
 clear hw1 N1 N2
 have M0 := rec_lit w1 [.int .i64 (cmpc xc zc), .int .i64 (cmpc xy zy)] 3 (w.heap.size + 2) hs 0 _ rfl
 have M1 := rec_lit w1 [.int .i64 (cmpc xc zc), .int .i64 (cmpc xy zy)] 3 (w.heap.size + 2) hs 1 _ rfl
 have CO := Lib.hid (cmpor_any (w.heap.size + 2) (cmpc xc zc) (cmpc xy zy) (w1.alloc (.cells #[.int .i64 (cmpc xc zc), .int .i64 (cmpc xy zy)] 3)).drew M0 M1)
 have BA : Hid (Below w1.heap.size w1 (w1.alloc (.cells #[.int .i64 (cmpc xc zc), .int .i64 (cmpc xy zy)] 3)).drew) := Lib.hid ((Below.refl _ _).alloc (Nat.le_refl _) _).drew
 clear M0 M1
 go_region_held3 (fun w' => w'.cell? ⟨w.heap.size, 0, none⟩ = some (.int .i64 xc) ∧ w'.cell? ⟨w.heap.size, 1, none⟩ = some (.int .i64 xy) ∧ w'.cell? ⟨w.heap.size + 1, 0, none⟩ = some (.int .i64 zc) ∧ w'.cell? ⟨w.heap.size + 1, 1, none⟩ = some (.int .i64 zy)) (first | go_keep) (first | (go_at_call 147; (with_reducible refine (cmpi_any _ _ _).mono ?_); rintro e w' ⟨rfl, rfl⟩) | (go_at_call 146; (refine (CO.out).mono ?_); rintro e w2 ⟨rfl, hb2⟩; have hbb := BA.out.trans (hb2.mono BA.out.size); have k0 := cell_keep x0 hbb; have k1 := cell_keep x1 hbb; have k2 := cell_keep z0 hbb; have k3 := cell_keep z1 hbb; have HB2 := Lib.hid (HB1.out.trans (hbb.mono HB1.out.size)); clear hbb hb2))
 go_wp2
 go_ret
 exact ⟨rfl, HB2.out⟩
structure PAt (n : Nat) (g : Nat → Bk) (z : Bk) (p : Nat) (f : Bool) : Prop where
 le : p ≤ n
 lo : ∀ j, j < p → Bl (g j).c (g j).y z.c z.y
 hi : ∀ j, p ≤ j → j < n → ((g j).c = z.c ∧ (g j).y = z.y) ∨ Bl z.c z.y (g j).c (g j).y
 fd : f = true ↔ p < n ∧ (g p).c = z.c ∧ (g p).y = z.y
set_option maxRecDepth 100000 in
theorem bl_upto {n : Nat} {g : Nat → Bk} {c y : Int} {k j : Nat} (r : BRow n g) (hk : k < n) (h : Bl (g k).c (g k).y c y) (hj : j ≤ k) : Bl (g j).c (g j).y c y := by
 by_cases e : j = k
 · rw [e]; exact h
 · have := r.asc j k (by omega) hk
   unfold Bl at *; omega
set_option maxRecDepth 100000 in
theorem bl_from {n : Nat} {g : Nat → Bk} {c y : Int} {k j : Nat} (r : BRow n g) (hj : j < n) (h : ¬ Bl (g k).c (g k).y c y) (hk : k ≤ j) : ¬ Bl (g j).c (g j).y c y := by
 by_cases e : j = k
 · rw [e]; exact h
 · have := r.asc k j (by omega) hj
   unfold Bl at *; omega
set_option maxRecDepth 100000 in
theorem bl_where {n : Nat} {g : Nat → Bk} {c y : Int} {p : Nat} (_r : BRow n g) (h : ∀ j, p ≤ j → j < n → ¬ Bl (g j).c (g j).y c y) : ∀ j, p ≤ j → j < n → ((g j).c = c ∧ (g j).y = y) ∨ Bl c y (g j).c (g j).y := fun j h1 h2 => by
 have := h j h1 h2
 unfold Bl at *; omega
set_option maxRecDepth 100000 in
set_option maxHeartbeats 4000000 in
theorem bsearch_any (A : Option Addr) (n c : Nat) (g : Nat → Bk) (z : Bk) (w : World) (hr : AtR be 3 w A n g) (hb : BRow n g) (hn : n ≤ 1000000) (hnc : n ≤ c) :
   Calls Tryz.prog 122 #[.slice A n c, ba z, .func (.func 123) #[] #[]] w fun e w' => ∃ (p : Nat) (f : Bool), e = .returned (.tuple #[.int .i64 p, .bool f]) ∧ PAt n g z p f ∧ Below w.heap.size w w' := by
 obtain ⟨zc, zy, za⟩ := z
 have HR := Lib.hid hr
 have HW := Lib.hid hb
 simp only [ba] at *
 clear hr hb
 go_enter Tryz.func122, Tryz.ntmps122
 go_wp2
 obtain ⟨w1, hw1⟩ : ∃ w1, w1 = w.alloc (.cells #[.int .i64 zc, .int .i64 zy, .int .i64 za] 81) := ⟨_, rfl⟩
 rw [← hw1]
 have HB1 : Hid (Below w.heap.size w w1) := Lib.hid (by rw [hw1]; exact (Below.refl _ _).alloc (Nat.le_refl _) _)
 have N1 := rec_lit w [.int .i64 zc, .int .i64 zy, .int .i64 za] 81 w.heap.size rfl
 rw [← hw1] at N1
 have e0 := N1 0 _ rfl
 have e1 := N1 1 _ rfl
 have e2 := N1 2 _ rfl
 clear N1 hw1
 go_loopg [9, 10] n (fun gh s9 s10 wr => ∃ lo hi : Nat, s9 = .int .i64 lo ∧ s10 = .int .i64 hi ∧ lo ≤ hi ∧ hi ≤ n ∧ hi - lo ≤ gh ∧ (∀ j, j < lo → Bl (g j).c (g j).y zc zy) ∧ (∀ j, hi ≤ j → j < n → ¬ Bl (g j).c (g j).y zc zy) ∧ Below w1.heap.size w1 wr)
 case atStart => exact ⟨0, n, rfl, rfl, Nat.zero_le _, Nat.le_refl _, by omega, fun j hj => by omega, fun j h1 h2 => by omega, Below.refl _ _⟩
 case round =>
   obtain ⟨lo, hi, rfl, rfl, hlh, hin, hg, h1, h2, hbw⟩ := hrel
   have HL := Lib.hid h1
   have HH := Lib.hid h2
   have HB := Lib.hid hbw
   have d0 := cell_keep e0 hbw
   have d1 := cell_keep e1 hbw
   have d2 := cell_keep e2 hbw
   clear h1 h2 hbw
   by_cases hlt : lo < hi
   · obtain ⟨b, off, rfl, hb, c0, c1, c2⟩ := ((HR.out.below HB1.out).below HB.out).three (show (lo + hi) / 2 < n by omega)
     have CC := Lib.hid fun w => bcmp_any (g ((lo + hi) / 2)) ⟨zc, zy, za⟩ w
     have b1 : (0 : Int) ≤ ((lo : Int) + (hi : Int)) / 2 := by omega
     have b2 : ((lo : Int) + (hi : Int)) / 2 < (n : Int) := by omega
     have b3 : (((lo : Int) + (hi : Int)) / 2).toNat = (lo + hi) / 2 := by omega
     by_cases hyx : bkc (g ((lo + hi) / 2)) ⟨zc, zy, za⟩ < 0
     · have HN := Lib.hid (bkc_neg.1 hyx)
       go_wp2
       go_region_held3 (fun w' => w'.cell? ⟨b, off + (lo + hi) / 2 * 3, none⟩ = some (.int .i64 (g ((lo + hi) / 2)).c) ∧ w'.cell? ⟨b, off + (lo + hi) / 2 * 3 + 1, none⟩ = some (.int .i64 (g ((lo + hi) / 2)).y) ∧ w'.cell? ⟨b, off + (lo + hi) / 2 * 3 + 2, none⟩ = some (.int .i64 (g ((lo + hi) / 2)).a) ∧ w'.cell? ⟨w.heap.size, 0, none⟩ = some (.int .i64 zc) ∧ w'.cell? ⟨w.heap.size, 1, none⟩ = some (.int .i64 zy) ∧ w'.cell? ⟨w.heap.size, 2, none⟩ = some (.int .i64 za)) (first | go_keep) (first | (go_at_call 123; (refine (CC.out _).mono ?_); rintro e w2 ⟨rfl, hb2⟩; have k0 := cell_keep (w := wr.drew) c0 hb2; have k1 := cell_keep (w := wr.drew) c1 hb2; have k2 := cell_keep (w := wr.drew) c2 hb2; have k3 := cell_keep (w := wr.drew) d0 hb2; have k4 := cell_keep (w := wr.drew) d1 hb2; have k5 := cell_keep (w := wr.drew) d2 hb2; have HB2 := Lib.hid (HB.out.trans (((below_drew wr).trans hb2).mono HB.out.size)); clear hb2))
       go_wp2
       go_roundg (hi - ((lo + hi) / 2 + 1))
       case measure => omega
       case rel => exact ⟨(lo + hi) / 2 + 1, hi, by go_num, rfl, by omega, hin, Nat.le_refl _, fun j hj => bl_upto HW.out (show (lo + hi) / 2 < n by omega) HN.out (by omega), HH.out, HB2.out⟩
     · have HN := Lib.hid (fun q => hyx (bkc_neg.2 q))
       have hyx' : decide (bkc (g ((lo + hi) / 2)) ⟨zc, zy, za⟩ < 0) = false := by simpa using hyx
       clear hyx
       go_wp2
       go_region_held3 (fun w' => w'.cell? ⟨b, off + (lo + hi) / 2 * 3, none⟩ = some (.int .i64 (g ((lo + hi) / 2)).c) ∧ w'.cell? ⟨b, off + (lo + hi) / 2 * 3 + 1, none⟩ = some (.int .i64 (g ((lo + hi) / 2)).y) ∧ w'.cell? ⟨b, off + (lo + hi) / 2 * 3 + 2, none⟩ = some (.int .i64 (g ((lo + hi) / 2)).a) ∧ w'.cell? ⟨w.heap.size, 0, none⟩ = some (.int .i64 zc) ∧ w'.cell? ⟨w.heap.size, 1, none⟩ = some (.int .i64 zy) ∧ w'.cell? ⟨w.heap.size, 2, none⟩ = some (.int .i64 za)) (first | go_keep) (first | (go_at_call 123; (refine (CC.out _).mono ?_); rintro e w2 ⟨rfl, hb2⟩; have k0 := cell_keep (w := wr.drew) c0 hb2; have k1 := cell_keep (w := wr.drew) c1 hb2; have k2 := cell_keep (w := wr.drew) c2 hb2; have k3 := cell_keep (w := wr.drew) d0 hb2; have k4 := cell_keep (w := wr.drew) d1 hb2; have k5 := cell_keep (w := wr.drew) d2 hb2; have HB2 := Lib.hid (HB.out.trans (((below_drew wr).trans hb2).mono HB.out.size)); clear hb2))
       go_wp2
       go_roundg ((lo + hi) / 2 - lo)
       case measure => omega
       case rel => exact ⟨lo, (lo + hi) / 2, rfl, by go_num, by omega, by omega, Nat.le_refl _, HL.out, fun j h1 h2 => bl_from HW.out h2 HN.out h1, HB2.out⟩
   · obtain rfl : hi = lo := by omega
     by_cases hp : hi < n
     · obtain ⟨b, off, rfl, hb, c0, c1, c2⟩ := ((HR.out.below HB1.out).below HB.out).three hp
       have CC := Lib.hid fun w => bcmp_any (g hi) ⟨zc, zy, za⟩ w
       have b1 : (0 : Int) ≤ (hi : Int) := by omega
       have b2 : (hi : Int) < (n : Int) := by omega
       by_cases hyx : bkc (g hi) ⟨zc, zy, za⟩ = 0
       · have HN := Lib.hid (bkc_zero.1 hyx)
         have hp' : decide ((hi : Int) < (n : Int)) = true := by simpa using hp
         have hyx' : (bkc (g hi) ⟨zc, zy, za⟩ == 0) = true := by simpa using hyx
         clear hyx hlt
         go_wp2
         go_region_held3 (fun w' => w'.cell? ⟨b, off + hi * 3, none⟩ = some (.int .i64 (g (hi)).c) ∧ w'.cell? ⟨b, off + hi * 3 + 1, none⟩ = some (.int .i64 (g (hi)).y) ∧ w'.cell? ⟨b, off + hi * 3 + 2, none⟩ = some (.int .i64 (g (hi)).a) ∧ w'.cell? ⟨w.heap.size, 0, none⟩ = some (.int .i64 zc) ∧ w'.cell? ⟨w.heap.size, 1, none⟩ = some (.int .i64 zy) ∧ w'.cell? ⟨w.heap.size, 2, none⟩ = some (.int .i64 za)) (first | go_keep) (first | (go_at_call 123; (refine (CC.out _).mono ?_); rintro e w2 ⟨rfl, hb2⟩; have k0 := cell_keep (w := wr.drew) c0 hb2; have k1 := cell_keep (w := wr.drew) c1 hb2; have k2 := cell_keep (w := wr.drew) c2 hb2; have k3 := cell_keep (w := wr.drew) d0 hb2; have k4 := cell_keep (w := wr.drew) d1 hb2; have k5 := cell_keep (w := wr.drew) d2 hb2; have HB2 := Lib.hid (HB.out.trans (((below_drew wr).trans hb2).mono HB.out.size)); clear hb2))
         go_wp2
         go_ret2
         exact ⟨hi, true, rfl, ⟨hin, HL.out, bl_where HW.out HH.out, by simpa using ⟨hp, HN.out⟩⟩, HB1.out.trans (HB2.out.mono HB1.out.size)⟩
       · have HN : Hid (¬ ((g hi).c = zc ∧ (g hi).y = zy)) := Lib.hid (fun q => hyx (bkc_zero.2 q))
         have hp' : decide ((hi : Int) < (n : Int)) = true := by simpa using hp
         have hyx' : (bkc (g hi) ⟨zc, zy, za⟩ == 0) = false := by simpa using hyx
         clear hyx hlt
         go_wp2
         go_region_held3 (fun w' => w'.cell? ⟨b, off + hi * 3, none⟩ = some (.int .i64 (g (hi)).c) ∧ w'.cell? ⟨b, off + hi * 3 + 1, none⟩ = some (.int .i64 (g (hi)).y) ∧ w'.cell? ⟨b, off + hi * 3 + 2, none⟩ = some (.int .i64 (g (hi)).a) ∧ w'.cell? ⟨w.heap.size, 0, none⟩ = some (.int .i64 zc) ∧ w'.cell? ⟨w.heap.size, 1, none⟩ = some (.int .i64 zy) ∧ w'.cell? ⟨w.heap.size, 2, none⟩ = some (.int .i64 za)) (first | go_keep) (first | (go_at_call 123; (refine (CC.out _).mono ?_); rintro e w2 ⟨rfl, hb2⟩; have k0 := cell_keep (w := wr.drew) c0 hb2; have k1 := cell_keep (w := wr.drew) c1 hb2; have k2 := cell_keep (w := wr.drew) c2 hb2; have k3 := cell_keep (w := wr.drew) d0 hb2; have k4 := cell_keep (w := wr.drew) d1 hb2; have k5 := cell_keep (w := wr.drew) d2 hb2; have HB2 := Lib.hid (HB.out.trans (((below_drew wr).trans hb2).mono HB.out.size)); clear hb2))
         go_wp2
         go_ret2
         exact ⟨hi, false, rfl, ⟨hin, HL.out, bl_where HW.out HH.out, by simpa using fun _ => HN.out⟩, HB1.out.trans (HB2.out.mono HB1.out.size)⟩
     · obtain rfl : hi = n := by omega
       have HN := Lib.hid hp
       clear hlt hp
       go_wp2
       go_big_quiet (fail)
       go_wp2
       go_ret2
       exact ⟨hi, false, rfl, ⟨hin, HL.out, bl_where HW.out HH.out, by simp⟩, HB1.out.trans ((below_drewN HB.out _).mono HB1.out.size)⟩
end Go.Proofs.YtmlafdehhbhbiaaGreat
/- The document's own register of buckets: set: a contract. -/
namespace Go.Proofs.YtmlafdehhbhbiaaGreat
open Go.RowKit
section
variable {w w1 : World} {O O1 : Nat → Nat} {base t t' sb n : Nat} {v : Value} {g : Nat → Bk} {S : Int → Int → Int}
theorem BV.takes (s : BV w O base t sb v n g) (fn : Fin0 base O w) (hb : base ≤ w.heap.size) (b : Below w.heap.size w w1) {v' : Value} {m : Nat} {h : Nat → Bk} (o : OwnR be 3 w1 81 w.heap.size v' m h) :
   ∃ O', BV (w1.setCell ⟨sb, 0, none⟩ v') O' base t sb v' m h ∧ Step base O t w O' (w1.setCell ⟨sb, 0, none⟩ v') := by
 obtain ⟨O1, m1, st1⟩ := fresh_marked fn hb b o t
 have hd1 : Head w1 O1 t sb [v] := (s.hd.below b).block (O1 := O1) rfl (Nat.le_refl _) ((st1 t).ext sb s.hd.lt)
 have lt := s.hd.lt
 have k2 := Step.set (t := t) (st1 t).fin 0 v' hd1.tag
 refine ⟨O1, ⟨hd1.set 0 v' (by simp), ⟨?_, fun x hx => ⟨(m1 x hx).1, ?_⟩⟩⟩, (st1 t).trans k2⟩
 · refine own_blocks (own_mono o hb) fun x hx => Below.heap_setCell _ _ _ _ ?_
   have := (World.ownsRow.lt o x hx).1
   show x ≠ sb
   omega
 · have := (World.ownsRow.lt o x hx).1
   omega
set_option maxHeartbeats 8000000 in
set_option maxRecDepth 100000 in
theorem rbset (s : BV w O base t sb v n g) (b : BIs S n g) (fn : Fin0 base O w) (hbase : base ≤ w.heap.size) (hn : n ≤ 1000) (c y x : Int) (hok : BOk c y) :
   Calls Tryz.prog 54 #[ptr sb, .int .i64 c, .int .i64 y, .int .i64 x] w fun e w' => ∃ u, e = .returned u ∧ ∃ v' m h O', BV w' O' base t sb v' m h ∧ BIs (upS S c y x) m h ∧ m ≤ n + 1 ∧ Step base O t w O' w' := by
 obtain ⟨i0, hi, hz0, hz1, hz2⟩ := info_parts bk_info
 have c0 := s.hd.c0
 have lt0 := s.hd.lt
 have g0 := s.hd.frz 0
 obtain ⟨A, cc, rfl, hc, hm, _, ha⟩ := s.at
 have HA := Lib.hid ha
 have HB := Lib.hid b
 have HS := Lib.hid s
 have HF := Lib.hid fn
 have OK := Lib.hid hok
 clear s ha b fn hok
 go_enter Tryz.func54, Tryz.ntmps54
 go_wp2
 go_loopg [8, 9, 19] n (fun gh s8 s9 i wr => ∃ (k m : Nat) (h : Nat → Bk) (ins : Bool), k ≤ n ∧ gh = n - k ∧ i = .int .i64 k ∧ s9 = .bool ((x == 0) || ins) ∧ SetInv g n k c y x ins m h ∧ OwnR be 3 wr 81 w.heap.size s8 m h ∧ Below w.heap.size w wr)
 case atStart => exact ⟨0, 0, g, false, Nat.zero_le _, rfl, rfl, by simp, SetInv.zero _ _ _ _ _ _, OwnR.nil _ _ _ _ _ _, Below.refl _ _⟩
 case round =>
   obtain ⟨k, m, h, ins, hk, hgk, rfl, rfl, hsi, ho, hbw⟩ := hrel
   have HGK := Lib.hid hgk
   have HW := Lib.hid hbw
   have SI := Lib.hid hsi
   have HO := Lib.hid ho
   have hmk := hsi.size.1
   have hz := hbw.size
   clear hgk hbw hsi ho
   by_cases hlt : k < n
   · obtain ⟨b, off, rfl, hb, c0, c1, c2⟩ := (HA.out.below HW.out).three hlt
     by_cases hcc : (g k).c = c ∧ (g k).y = y
     · have HN := Lib.hid hcc
       have p1 : ((g k).c == c) = true := by simpa using hcc.1
       have p2 : ((g k).y == y) = true := by simpa using hcc.2
       clear hcc
       go_wp2
       go_roundg (n - (k + 1))
       case measure => have := HGK.out; omega
       case rel => exact ⟨k + 1, m, h, ins, by omega, rfl, by go_num, rfl, SI.out.skip HN.out, HO.out.alloc _, HW.out.alloc hz _⟩
     · have HN := Lib.hid hcc
       have ways : (((g k).c == c) = false) ∨ (((g k).c == c) = true ∧ ((g k).y == y) = false) := by
         by_cases q1 : (g k).c = c
         · exact .inr ⟨by simpa using q1, by simpa using fun q2 => hcc ⟨q1, q2⟩⟩
         · exact .inl (by simpa using q1)
       by_cases hd : ((x == 0) || ins) = true
       · have HD : Hid (x = 0 ∨ ins = true ∨ ¬ Bl c y (g k).c (g k).y) := Lib.hid (by
           rw [Bool.or_eq_true, beq_iff_eq] at hd
           rcases hd with h | h
           · exact .inl h
           · exact .inr (.inl h))
         obtain ⟨dn, hdn⟩ : ∃ dn, ((x == 0) || ins) = dn := ⟨_, rfl⟩
         rw [hdn] at hd
         subst hd
         rw [hdn]
         have HDN := Lib.hid hdn
         clear hcc hdn
         rcases ways with p1 | ⟨p1, p2⟩
         all_goals
           go_wp2_with (at_builtin; (refine wpList_push_r rfl (.tmp 60) (.tmp 62) rfl bk_type hi hz0 hz1 hz2 (by decide) rfl (by decide) be_len be_one w w.heap.size m (wr.heap.size + 1) _ h (g k) rfl rfl (rec_lit (wr.alloc _) (be (g k)) 81 _ (by simp)) ((HO.out.alloc _).alloc _) (by omega) ((HW.out.alloc hz _).alloc (by simp; omega) _) (by simp; omega) _ rfl ?_; intro b2 c3 w6 ho2 hb2 hg2 hat2; have HO2 := Lib.hid ho2; have HW2 := Lib.hid hb2; clear ho2 hb2 hg2 hat2))
           go_roundg (n - (k + 1))
           case measure => have := HGK.out; omega
           case rel => exact ⟨k + 1, m + 1, _, ins, by omega, rfl, by go_num, by rw [HDN.out], SI.out.keep HB.out.1 hlt HN.out HD.out, HO2.out, HW2.out⟩
       · obtain ⟨dn, hdn⟩ : ∃ dn, ((x == 0) || ins) = dn := ⟨_, rfl⟩
         have hf : dn = false := by rw [← hdn]; simpa using hd
         have hx0 : x ≠ 0 ∧ ins = false := by
           rw [hf, Bool.or_eq_false_iff] at hdn
           exact ⟨by simpa using hdn.1, hdn.2⟩
         obtain ⟨hx0, rfl⟩ := hx0
         subst hf
         rw [hdn]
         have HDN := Lib.hid hdn
         have HX := Lib.hid hx0
         have HT : Hid (((x == 0) || true) = true) := Lib.hid (by simp)
         clear hcc hdn hd hx0
         rcases ways with p1 | ⟨p1, p2⟩
         · by_cases hq : c < (g k).c
           · have HL : Hid (Bl c y (g k).c (g k).y) := Lib.hid (.inl hq)
             go_wp2_with (first | (at_builtin; (refine wpList_push_r rfl (.tmp 53) (.tmp 58) rfl bk_type hi hz0 hz1 hz2 (by decide) rfl (by decide) be_len be_one w w.heap.size m (wr.heap.size + 1) _ h ⟨c, y, x⟩ rfl rfl (rec_lit (wr.alloc _) (be ⟨c, y, x⟩) 81 _ (by simp)) ((HO.out.alloc _).alloc _) (by omega) ((HW.out.alloc hz _).alloc (by simp; omega) _) (by simp; omega) _ rfl ?_; intro b2 c3 w6 ho2 hb2 hg2 hat2; have hcell : ∀ j u, (be (g k))[j]? = some u → w6.cell? ⟨wr.heap.size, j, none⟩ = some u := (fun j u hu => (World.cell?_of_block (a := ⟨wr.heap.size, j, none⟩) (hg2.block wr.heap.size (by simp; omega) (fun e => by have := (World.ownsRow.lt HO.out _ e.symm).2; omega))).trans (cell_keep (rec_lit wr (be (g k)) 81 wr.heap.size rfl j u hu) ((Below.refl _ _).alloc (Nat.le_refl _) _))); have k0 := hcell 0 _ rfl; have k1 := hcell 1 _ rfl; have k2 := hcell 2 _ rfl; have HO2 := Lib.hid ho2; have HW2 := Lib.hid hb2; have hz6 := hb2.size; clear ho2 hb2 hg2 hat2 hcell)) | (at_builtin; (refine wpList_push_r rfl (.tmp 60) (.tmp 62) rfl bk_type hi hz0 hz1 hz2 (by decide) rfl (by decide) be_len be_one w w.heap.size (m + 1) w6.heap.size _ (pushB h m ⟨c, y, x⟩) (g k) rfl rfl (rec_lit w6 (be (g k)) 81 _ rfl) (HO2.out.alloc _) (by omega) (HW2.out.alloc hz6 _) (by simp; omega) _ rfl ?_; intro b4 c4 w8 ho4 hb4 hg4 hat4; have HO4 := Lib.hid ho4; have HW4 := Lib.hid hb4; clear ho4 hb4 hg4 hat4)))
             go_roundg (n - (k + 1))
             case measure => have := HGK.out; omega
             case rel => exact ⟨k + 1, m + 1 + 1, _, true, by omega, rfl, by go_num, by rw [HT.out], (SI.out.put OK.out HX.out (behind HB.out.1 HL.out)).keep HB.out.1 hlt HN.out (.inr (.inl rfl)), HO4.out, HW4.out⟩
           · have HL : Hid (¬ Bl c y (g k).c (g k).y) := Lib.hid (by
               have p1' : ¬ (g k).c = c := by simpa using p1
               unfold Bl; omega)
             have hq' : decide (c < (g k).c) = false := by simpa using hq
             clear hq
             go_wp2_with (at_builtin; (refine wpList_push_r rfl (.tmp 60) (.tmp 62) rfl bk_type hi hz0 hz1 hz2 (by decide) rfl (by decide) be_len be_one w w.heap.size m (wr.heap.size + 1) _ h (g k) rfl rfl (rec_lit (wr.alloc _) (be (g k)) 81 _ (by simp)) ((HO.out.alloc _).alloc _) (by omega) ((HW.out.alloc hz _).alloc (by simp; omega) _) (by simp; omega) _ rfl ?_; intro b2 c3 w6 ho2 hb2 hg2 hat2; have HO2 := Lib.hid ho2; have HW2 := Lib.hid hb2; clear ho2 hb2 hg2 hat2))
             go_roundg (n - (k + 1))
             case measure => have := HGK.out; omega
             case rel => exact ⟨k + 1, m + 1, _, false, by omega, rfl, by go_num, by rw [HDN.out], SI.out.keep HB.out.1 hlt HN.out (.inr (.inr HL.out)), HO2.out, HW2.out⟩
         · have e1 : (g k).c = c := by simpa using p1
           have hq' : decide (c < (g k).c) = false := by simp; omega
           by_cases hq : y < (g k).y
           · have HL : Hid (Bl c y (g k).c (g k).y) := Lib.hid (.inr ⟨e1.symm, hq⟩)
             clear e1
             go_wp2_with (first | (at_builtin; (refine wpList_push_r rfl (.tmp 53) (.tmp 58) rfl bk_type hi hz0 hz1 hz2 (by decide) rfl (by decide) be_len be_one w w.heap.size m (wr.heap.size + 1) _ h ⟨c, y, x⟩ rfl rfl (rec_lit (wr.alloc _) (be ⟨c, y, x⟩) 81 _ (by simp)) ((HO.out.alloc _).alloc _) (by omega) ((HW.out.alloc hz _).alloc (by simp; omega) _) (by simp; omega) _ rfl ?_; intro b2 c3 w6 ho2 hb2 hg2 hat2; have hcell : ∀ j u, (be (g k))[j]? = some u → w6.cell? ⟨wr.heap.size, j, none⟩ = some u := (fun j u hu => (World.cell?_of_block (a := ⟨wr.heap.size, j, none⟩) (hg2.block wr.heap.size (by simp; omega) (fun e => by have := (World.ownsRow.lt HO.out _ e.symm).2; omega))).trans (cell_keep (rec_lit wr (be (g k)) 81 wr.heap.size rfl j u hu) ((Below.refl _ _).alloc (Nat.le_refl _) _))); have k0 := hcell 0 _ rfl; have k1 := hcell 1 _ rfl; have k2 := hcell 2 _ rfl; have HO2 := Lib.hid ho2; have HW2 := Lib.hid hb2; have hz6 := hb2.size; clear ho2 hb2 hg2 hat2 hcell)) | (at_builtin; (refine wpList_push_r rfl (.tmp 60) (.tmp 62) rfl bk_type hi hz0 hz1 hz2 (by decide) rfl (by decide) be_len be_one w w.heap.size (m + 1) w6.heap.size _ (pushB h m ⟨c, y, x⟩) (g k) rfl rfl (rec_lit w6 (be (g k)) 81 _ rfl) (HO2.out.alloc _) (by omega) (HW2.out.alloc hz6 _) (by simp; omega) _ rfl ?_; intro b4 c4 w8 ho4 hb4 hg4 hat4; have HO4 := Lib.hid ho4; have HW4 := Lib.hid hb4; clear ho4 hb4 hg4 hat4)))
             go_roundg (n - (k + 1))
             case measure => have := HGK.out; omega
             case rel => exact ⟨k + 1, m + 1 + 1, _, true, by omega, rfl, by go_num, by rw [HT.out], (SI.out.put OK.out HX.out (behind HB.out.1 HL.out)).keep HB.out.1 hlt HN.out (.inr (.inl rfl)), HO4.out, HW4.out⟩
           · have HL : Hid (¬ Bl c y (g k).c (g k).y) := Lib.hid (by unfold Bl; omega)
             have hq2 : decide (y < (g k).y) = false := by simpa using hq
             clear e1 hq
             go_wp2_with (at_builtin; (refine wpList_push_r rfl (.tmp 60) (.tmp 62) rfl bk_type hi hz0 hz1 hz2 (by decide) rfl (by decide) be_len be_one w w.heap.size m (wr.heap.size + 1) _ h (g k) rfl rfl (rec_lit (wr.alloc _) (be (g k)) 81 _ (by simp)) ((HO.out.alloc _).alloc _) (by omega) ((HW.out.alloc hz _).alloc (by simp; omega) _) (by simp; omega) _ rfl ?_; intro b2 c3 w6 ho2 hb2 hg2 hat2; have HO2 := Lib.hid ho2; have HW2 := Lib.hid hb2; clear ho2 hb2 hg2 hat2))
             go_roundg (n - (k + 1))
             case measure => have := HGK.out; omega
             case rel => exact ⟨k + 1, m + 1, _, false, by omega, rfl, by go_num, by rw [HDN.out], SI.out.keep HB.out.1 hlt HN.out (.inr (.inr HL.out)), HO2.out, HW2.out⟩
   · obtain rfl : k = n := by omega
     clear hlt
     have d0 := cell_keep c0 HW.out
     have f0 := (HW.out.frozen (p := ⟨sb, 0, none⟩) lt0).trans g0
     obtain ⟨dn, hdn⟩ : ∃ dn, ((x == 0) || ins) = dn := ⟨_, rfl⟩
     rw [hdn]
     have HDN := Lib.hid hdn
     clear hdn
     cases dn
     · have hx0 : x ≠ 0 ∧ ins = false := by
         have := HDN.out
         rw [Bool.or_eq_false_iff] at this
         exact ⟨by simpa using this.1, this.2⟩
       obtain ⟨hx0, rfl⟩ := hx0
       have HX := Lib.hid hx0
       clear hx0
       go_wp2_with (at_builtin; (refine wpList_push_r rfl (.tmp 67) (.tmp 72) rfl bk_type hi hz0 hz1 hz2 (by decide) rfl (by decide) be_len be_one w w.heap.size m wr.heap.size _ h ⟨c, y, x⟩ rfl rfl (rec_lit wr (be ⟨c, y, x⟩) 81 _ rfl) (HO.out.alloc _) (by omega) (HW.out.alloc hz _) (by simp; omega) _ rfl ?_; intro b2 c3 w6 ho2 hb2 hg2 hat2; have e0 := cell_keep c0 hb2; have e1 := (hb2.frozen (p := ⟨sb, 0, none⟩) lt0).trans g0; have HO2 := Lib.hid ho2; have HW2 := Lib.hid hb2; clear ho2 hb2 hg2 hat2))
       go_end0
       obtain ⟨O', q1, q2⟩ := BV.takes HS.out HF.out hbase HW2.out HO2.out
       exact ⟨_, rfl, _, _, _, O', q1, ((SI.out.put OK.out HX.out fun j hj hn => by omega).done HB.out (.inr rfl)), by have := SI.out.size.2 rfl; omega, q2⟩
     · have HD : Hid (x = 0 ∨ ins = true) := Lib.hid (by
         have := HDN.out
         rw [Bool.or_eq_true, beq_iff_eq] at this
         exact this)
       obtain ⟨A8, c8, rfl, _, _, _⟩ := HO.out.form
       go_wp2
       go_end0
       obtain ⟨O', q1, q2⟩ := BV.takes HS.out HF.out hbase HW.out HO.out
       exact ⟨_, rfl, _, _, _, O', q1, SI.out.done HB.out HD.out, by omega, q2⟩
end
end Go.Proofs.YtmlafdehhbhbiaaGreat
/- The document's own register of buckets: Move, Reclass: a contract for each, by why they are refused. -/
namespace Go.Proofs.YtmlafdehhbhbiaaGreat
open Go.RowKit
section
variable {w w1 : World} {O O1 : Nat → Nat} {base t t' sb n : Nat} {v : Value} {g : Nat → Bk} {S : Int → Int → Int}
set_option maxHeartbeats 4000000 in
set_option maxRecDepth 100000 in
theorem rbmove_no (s : BV w O base t sb v n g) (iv : BInv S n g) (c y a e : Int) (he : MErr S n (btot g n) c y a e) (h1 : e = 1 ∨ e = 6) :
   Calls Tryz.prog 16 #[ptr sb, .int .i64 c, .int .i64 y, .int .i64 a] w fun e' w' => e' = .returned (.int .i64 e) ∧ Below w.heap.size w w' := by
 have HS := Lib.hid s
 have HI := Lib.hid iv
 have hn : n ≤ 1000 := by have := iv.le; omega
 cases he
 case ok => omega
 case limit => omega
 case arg ha =>
   clear s iv h1
   by_cases hb : BOk c y
   · have R1 := Lib.hid fun w => rbk_yes c y w hb
     have R2 := Lib.hid fun w => rmny_no a w fun q => ha ⟨hb, q⟩
     clear ha hb
     go_enter Tryz.func16, Tryz.ntmps16
     go_wp2_with (first | (go_at_call 49; (with_reducible refine (R1.out _).mono ?_); rintro e w' ⟨rfl, rfl⟩) | (go_at_call 50; (with_reducible refine (R2.out _).mono ?_); rintro e w' ⟨rfl, rfl⟩))
     go_ret
     exact ⟨rfl, Below.refl _ _⟩
   · have R1 := Lib.hid fun w => rbk_no c y w hb
     clear ha hb
     go_enter Tryz.func16, Tryz.ntmps16
     go_wp2_with (go_at_call 49; (with_reducible refine (R1.out _).mono ?_); rintro e w' ⟨rfl, rfl⟩)
     go_ret
     exact ⟨rfl, Below.refl _ _⟩
 case over ha ho =>
   have R1 := Lib.hid fun w => rbk_yes c y w ha.1
   have R2 := Lib.hid fun w => rmny_yes a w ha.2
   have hV := iv.mon c y
   have hT := iv.all
   have hA := ha.2
   have CG := Lib.hid (rbget s iv.is hn c y)
   obtain ⟨V, eV⟩ : ∃ V, S c y = V := ⟨_, rfl⟩
   obtain ⟨T, eT⟩ : ∃ T, btot g n = T := ⟨_, rfl⟩
   rw [eV] at hV ho CG
   rw [eT] at hT ho
   unfold Mon at hV hT hA
   have ew1 : IntKind.i64.wrap (V + a) = V + a := IntWalk.i64_in _ (by omega)
   have ew2 : IntKind.i64.wrap (T + a) = T + a := IntWalk.i64_in _ (by omega)
   have HT := Lib.hid eT
   have hg : Hid (∀ j, j < n → Mon (g j).a) := Lib.hid fun j hj => iv.is.mon iv.mon hj
   clear s iv h1 ha hV hT hA eV eT
   by_cases q : Mon (V + a)
   · have R3 := Lib.hid fun w => rmny_yes (V + a) w q
     have R4 := Lib.hid fun w => rmny_no (T + a) w fun z => ho ⟨q, z⟩
     clear ho q
     go_enter Tryz.func16, Tryz.ntmps16
     go_wp2_with (first | (go_at_call 49; (with_reducible refine (R1.out _).mono ?_); rintro e w' ⟨rfl, rfl⟩) | (go_at_call 50; (with_reducible refine (R2.out _).mono ?_); rintro e w' ⟨rfl, rfl⟩))
     refine (CG.out).mono ?_
     rintro e w1 ⟨rfl, hb1⟩
     have HB1 := Lib.hid hb1
     have CT := Lib.hid (rbtotal (HS.out.below hb1) hn hg.out)
     rw [HT.out] at CT
     clear hb1
     go_wp2_with (go_at_call 50; (with_reducible refine (R3.out _).mono ?_); rintro e w' ⟨rfl, rfl⟩)
     refine (CT.out).mono ?_
     rintro e w2 ⟨rfl, hb2⟩
     have HB2 := Lib.hid (HB1.out.trans (hb2.mono HB1.out.size))
     clear hb2 CT
     go_wp2_with (go_at_call 50; (with_reducible refine (R4.out _).mono ?_); rintro e w' ⟨rfl, rfl⟩)
     go_ret
     exact ⟨rfl, HB2.out⟩
   · have R3 := Lib.hid fun w => rmny_no (V + a) w q
     clear ho q
     go_enter Tryz.func16, Tryz.ntmps16
     go_wp2_with (first | (go_at_call 49; (with_reducible refine (R1.out _).mono ?_); rintro e w' ⟨rfl, rfl⟩) | (go_at_call 50; (with_reducible refine (R2.out _).mono ?_); rintro e w' ⟨rfl, rfl⟩))
     refine (CG.out).mono ?_
     rintro e w1 ⟨rfl, hb1⟩
     have HB1 := Lib.hid hb1
     clear hb1
     go_wp2_with (go_at_call 50; (with_reducible refine (R3.out _).mono ?_); rintro e w' ⟨rfl, rfl⟩)
     go_ret
     exact ⟨rfl, HB1.out⟩
set_option maxHeartbeats 4000000 in
set_option maxRecDepth 100000 in
theorem rbmove_right (s : BV w O base t sb v n g) (iv : BInv S n g) (fn : Fin0 base O w) (hbase : base ≤ w.heap.size) (c y a : Int) (h1 : BOk c y ∧ Mon a) (h2 : Mon (S c y + a) ∧ Mon (btot g n + a)) :
   Calls Tryz.prog 16 #[ptr sb, .int .i64 c, .int .i64 y, .int .i64 a] w fun e' w' =>
     (12 < cntB n (S c y) (S c y + a) ∧ e' = .returned (.int .i64 5) ∧ Below w.heap.size w w') ∨
     (cntB n (S c y) (S c y + a) ≤ 12 ∧ e' = .returned (.int .i64 0) ∧ ∃ v' m h O', BV w' O' base t sb v' m h ∧ BInv (upS S c y (S c y + a)) m h ∧ Step base O t w O' w') := by
 have hn : n ≤ 1000 := by have := iv.le; omega
 have hn12 := iv.le
 have HS := Lib.hid s
 have HI := Lib.hid iv
 have HF := Lib.hid fn
 have OK := Lib.hid h1.1
 have R1 := Lib.hid fun w => rbk_yes c y w h1.1
 have R2 := Lib.hid fun w => rmny_yes a w h1.2
 have hV := iv.mon c y
 have hT := iv.all
 have hA := h1.2
 have CG := Lib.hid fun w1 (h : Below w.heap.size w w1) => rbget (s.below h) iv.is hn c y
 obtain ⟨V, eV⟩ : ∃ V, S c y = V := ⟨_, rfl⟩
 obtain ⟨T, eT⟩ : ∃ T, btot g n = T := ⟨_, rfl⟩
 simp only [eV] at hV h2 CG ⊢
 rw [eT] at hT h2
 have HM := Lib.hid h2
 have R3 := Lib.hid fun w => rmny_yes (V + a) w h2.1
 have R4 := Lib.hid fun w => rmny_yes (T + a) w h2.2
 unfold Mon at hV hT hA
 have ew1 : IntKind.i64.wrap (V + a) = V + a := IntWalk.i64_in _ (by omega)
 have ew2 : IntKind.i64.wrap (T + a) = T + a := IntWalk.i64_in _ (by omega)
 have HT := Lib.hid eT
 have HV := Lib.hid eV
 have hg : Hid (∀ j, j < n → Mon (g j).a) := Lib.hid fun j hj => iv.is.mon iv.mon hj
 have c0 := s.hd.c0
 have lt0 := s.hd.lt
 have g0 := s.hd.frz 0
 clear s iv h1 h2 hV hT hA eV eT fn
 go_enter Tryz.func16, Tryz.ntmps16
 go_wp2_with (first | (go_at_call 49; (with_reducible refine (R1.out _).mono ?_); rintro e w' ⟨rfl, rfl⟩) | (go_at_call 50; (with_reducible refine (R2.out _).mono ?_); rintro e w' ⟨rfl, rfl⟩))
 refine (CG.out w (Below.refl _ _)).mono ?_
 rintro e w1 ⟨rfl, hb1⟩
 have HB1 := Lib.hid hb1
 have CT := Lib.hid (rbtotal (HS.out.below hb1) hn hg.out)
 rw [HT.out] at CT
 clear hb1
 go_wp2_with (go_at_call 50; (with_reducible refine (R3.out _).mono ?_); rintro e w' ⟨rfl, rfl⟩)
 refine (CT.out).mono ?_
 rintro e w2 ⟨rfl, hb2⟩
 have HB2 := Lib.hid (HB1.out.trans (hb2.mono HB1.out.size))
 clear hb2 CT
 have CC := Lib.hid (rbcopy (HS.out.below HB2.out) hn (Fin0.zero w.heap.size w2) HB2.out.size 1)
 go_wp2_with (go_at_call 50; (with_reducible refine (R4.out _).mono ?_); rintro e w' ⟨rfl, rfl⟩)
 refine (CC.out).mono ?_
 rintro e w3 ⟨v3, xb, O3, rfl, x3, hxb, s3⟩
 have X3 := Lib.hid x3
 have HB3 := Lib.hid (HB2.out.trans ((s3 1).below (Fin0.zero w.heap.size w2) (by decide) HB2.out.size))
 have F3 := Lib.hid (s3 1).fin
 clear x3 s3 CC hxb
 go_wp2_with fail
 refine (CG.out w3 HB3.out).mono ?_
 rintro e w4 ⟨rfl, hb4⟩
 have HB4 := Lib.hid (HB3.out.trans (hb4.mono HB3.out.size))
 have CS := Lib.hid (rbset (X3.out.below hb4) HI.out.is (F3.out.below hb4) HB4.out.size hn c y (V + a) OK.out)
 have F4 := Lib.hid (F3.out.below hb4)
 clear hb4
 go_wp2_with fail
 refine (CS.out).mono ?_
 rintro e w5 ⟨u, rfl, v5, m, h, O5, x5, b5, hm5, s5⟩
 have HB5 := Lib.hid (HB4.out.trans (s5.below F4.out (by decide) HB4.out.size))
 have X5 := Lib.hid x5
 have hxc := x5.hd.c0
 obtain ⟨A5, c5, rfl, _, _, _⟩ := x5.row.form
 obtain ⟨hcnt, htot⟩ := bis_count HI.out.is OK.out b5
 rw [HV.out] at hcnt htot
 have B5 := Lib.hid b5
 have HTT := Lib.hid htot
 have HC := Lib.hid hcnt
 have d0 := cell_keep c0 HB5.out
 have f0 := (HB5.out.frozen (p := ⟨sb, 0, none⟩) lt0).trans g0
 clear x5 b5 s5 CS hcnt htot
 by_cases hm : m ≤ 12
 · have hm' : ¬ (12 : Int) < (m : Int) := by omega
   go_wp2
   go_ret
   obtain ⟨O', q1, q2⟩ := BV.takes HS.out HF.out hbase HB5.out X5.out.own
   refine .inr ⟨by rw [← HC.out]; omega, rfl, _, _, _, O', q1, ⟨B5.out, hm, fun c' y' => ?_, by rw [HTT.out, HT.out, show T - V + (V + a) = T + a by omega]; exact HM.out.2⟩, q2⟩
   unfold upS
   split
   · exact HM.out.1
   · exact HI.out.mon c' y'
 · go_wp2
   go_ret
   exact .inl ⟨by rw [← HC.out]; omega, rfl, HB5.out⟩
end
end Go.Proofs.YtmlafdehhbhbiaaGreat
/- The document's own register of buckets: Reclass: a contract, by why it is refused. -/
namespace Go.Proofs.YtmlafdehhbhbiaaGreat
open Go.RowKit
end Go.Proofs.YtmlafdehhbhbiaaGreat
/- Rows of buckets told alike; the document's own register in a law's hands: Move, Reclass, Get, Total. -/
namespace Go.Proofs.YtmlafdehhbhbiaaGreat
open Go.RowKit
set_option maxHeartbeats 4000000 in
theorem bsame_true (A A' : Option Addr) (n c c' : Nat) (g g' : Nat → Bk) (w : World) (h : AtR be 3 w A n g) (h' : AtR be 3 w A' n g') (hn : n ≤ 1000000) (e : ∀ j, j < n → g j = g' j) :
   Calls Tryz.prog 24 #[.slice A n c, .slice A' n c'] w fun e' w' => e' = .returned (.bool true) ∧ Below w.heap.size w w' := by
 have H1 := Lib.hid h
 have H2 := Lib.hid (h'.ext fun j hj => (e j hj).symm)
 have ee : ((n : Int) != (n : Int)) = false := by simp
 clear h h' e
 go_enter Tryz.func24, Tryz.ntmps24
 go_wp2
 go_loopg [5] n (fun gh i wr => ∃ k : Nat, k ≤ n ∧ gh = n - k ∧ i = .int .i64 k ∧ Below w.heap.size w wr)
 case atStart => exact ⟨0, Nat.zero_le _, rfl, rfl, Below.refl _ _⟩
 case round =>
   obtain ⟨k, hk, hgk, rfl, hbw⟩ := hrel
   have HGK := Lib.hid hgk
   have HB := Lib.hid hbw
   clear hgk hbw
   by_cases hlt : k < n
   · obtain ⟨b, off, rfl, hb, c0, c1, c2⟩ := (H1.out.below HB.out).three hlt
     obtain ⟨b', off', rfl, hb', c0', c1', c2'⟩ := (H2.out.below HB.out).three hlt
     have k0 : (0 : Int) ≤ (k : Int) := by omega
     have k1 : (k : Int) < (n : Int) := by omega
     go_wp2
     go_big_quiet (fail)
     go_wp2
     go_roundg (n - (k + 1))
     case measure => have := HGK.out; omega
     case rel => exact ⟨k + 1, by omega, rfl, by go_num, below_drewN HB.out _⟩
   · obtain rfl : k = n := by omega
     clear hlt
     go_wp2
     go_ret
     exact ⟨rfl, HB.out⟩
def mvS (e : Int) (S : Int → Int → Int) (c y a : Int) : Int → Int → Int := if e = 0 then upS S c y (S c y + a) else S
structure NowB (w0 w : World) (O : Nat → Nat) (t sb : Nat) (S : Int → Int → Int) : Prop where
 st : ∃ v n g, BV w O w0.heap.size t sb v n g ∧ BInv S n g
 fin : Fin0 w0.heap.size O w
 low : Below w0.heap.size w0 w
section
variable {w0 w w1 : World} {O O1 : Nat → Nat} {t t' sb n : Nat} {g : Nat → Bk} {S : Int → Int → Int}
theorem NowB.below (h : NowB w0 w O t sb S) (k : Below w.heap.size w w1) : NowB w0 w1 O t sb S := by
 obtain ⟨v, n, g, s, iv⟩ := h.st
 exact ⟨⟨v, n, g, s.below k, iv⟩, h.fin.below k, h.low.trans (k.mono h.low.size)⟩
theorem NowB.step (h : NowB w0 w O t sb S) (k : Step w0.heap.size O t' w O1 w1) (h1 : t ≠ t') (h2 : t' ≠ 0) : NowB w0 w1 O1 t sb S := by
 obtain ⟨v, n, g, s, iv⟩ := h.st
 exact ⟨⟨v, n, g, s.step k h1, iv⟩, k.fin, h.low.trans (k.below h.fin h2 h.low.size)⟩
theorem nowb_new (w0 w : World) (O : Nat → Nat) (fn : Fin0 w0.heap.size O w) (lo : Below w0.heap.size w0 w) (T : TypeId) (t : Nat) :
   NowB w0 (w.alloc (.cells #[.slice none 0 0] T)) (mark O t w.heap.size) t w.heap.size (fun _ _ => 0) ∧ ∀ t', Step w0.heap.size O t' w (mark O t w.heap.size) (w.alloc (.cells #[.slice none 0 0] T)) := by
 obtain ⟨a, b⟩ := BV.new (t := t) fn lo.size T (fun _ => ⟨0, 0, 0⟩)
 exact ⟨⟨⟨_, _, _, a, BInv.zero _⟩, (b 0).fin, lo.alloc lo.size _⟩, b⟩
theorem NowB.told (h : NowB w0 w O t sb S) : ∃ n g, BInv S n g := by
 obtain ⟨v, n, g, _, iv⟩ := h.st
 exact ⟨n, g, iv⟩
theorem nbmove (h : NowB w0 w O t sb S) (ht : t ≠ 0) {m : Nat} {g' : Nat → Bk} (b : BIs S m g') (c y a e : Int) (he : MErr S m (btot g' m) c y a e) :
   Calls Tryz.prog 16 #[ptr sb, .int .i64 c, .int .i64 y, .int .i64 a] w fun e' w' => e' = .returned (.int .i64 e) ∧ ∃ O', NowB w0 w' O' t sb (mvS e S c y a) ∧ Step w0.heap.size O t w O' w' := by
 obtain ⟨v, n, g, s, iv⟩ := h.st
 rw [← iv.is.total b, ← (iv.is.uniq b).1] at he
 by_cases h0 : e = 1 ∨ e = 6
 · refine (rbmove_no s iv c y a e he h0).mono ?_
   rintro e' w' ⟨rfl, hb⟩
   refine ⟨rfl, O, ?_, Step.of_below h.fin hb⟩
   unfold mvS
   rw [if_neg (by omega)]
   exact h.below hb
 · cases he
   case arg => omega
   case over => omega
   case limit h1 h2 h3 =>
     refine (rbmove_right s iv h.fin h.low.size c y a h1 h2).mono ?_
     rintro e' w' (⟨_, rfl, hb⟩ | ⟨h4, _⟩)
     · exact ⟨rfl, O, h.below hb, Step.of_below h.fin hb⟩
     · omega
   case ok h1 h2 h3 =>
     refine (rbmove_right s iv h.fin h.low.size c y a h1 h2).mono ?_
     rintro e' w' (⟨h4, _⟩ | ⟨_, rfl, v', m', g2, O', s', iv', st⟩)
     · omega
     · exact ⟨rfl, O', ⟨⟨_, _, _, s', iv'⟩, st.fin, h.low.trans (st.below h.fin ht h.low.size)⟩, st⟩
end
end Go.Proofs.YtmlafdehhbhbiaaGreat
/- Registers of numbers, made by the document's own moves: some register. -/
namespace Go.Proofs.YtmlafdehhbhbiaaGreat
open Go.RowKit
theorem nbmove_some {w0 w : World} {O : Nat → Nat} {t sb : Nat} {S : Int → Int → Int} (h : NowB w0 w O t sb S) (ht : t ≠ 0) (c y a : Int) :
   Calls Tryz.prog 16 #[ptr sb, .int .i64 c, .int .i64 y, .int .i64 a] w fun e' w' => ∃ e S' O', e' = .returned (.int .i64 e) ∧ NowB w0 w' O' t sb S' ∧ Step w0.heap.size O t w O' w' := by
 obtain ⟨n, g, iv⟩ := h.told
 obtain ⟨e, he⟩ := merr_any S n (btot g n) c y a
 refine (nbmove h ht iv.is c y a e he).mono ?_
 rintro e' w' ⟨rfl, O', h', st⟩
 exact ⟨e, _, O', rfl, h', st⟩
end Go.Proofs.YtmlafdehhbhbiaaGreat
