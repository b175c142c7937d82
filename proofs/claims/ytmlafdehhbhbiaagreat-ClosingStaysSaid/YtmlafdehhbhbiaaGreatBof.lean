/- The law's own walk from the document's register to one of the program's, made anew: what the call leaves lies in its own memory. -/
import Derived.Test.YtmlafdehhbhbiaaGreatM12
import Derived.WalkKit
import Derived.WalkSpells
import Derived.WalkLawsBesides
import Derived.Lib.Hide
import Derived.IntWalk
import Derived.Deep.LoopGhost
import Derived.Deep.RegionHeld3
import Derived.Deep.RegionLaw
namespace Go.Proofs.YtmlafdehhbhbiaaGreat
open Go.RowKit
set_option maxHeartbeats 8000000 in
set_option maxRecDepth 100000 in
theorem bof2 {w0 w : World} {O : Nat → Nat} {t0 sb : Nat} {S : Int → Int → Int} (h : NowB w0 w O t0 sb S) :
   Calls Tryz.prog 19 #[ptr sb] w fun e w' => ∃ rb O', e = .returned (ptr rb) ∧ NowP w w' O' 1 rb S ∧ Below w.heap.size w w' := by
 obtain ⟨i0, hi, hz0, hz1, hz2⟩ := info_parts bk_info
 have HB := Lib.hid h
 have CN := Lib.hid (pbnew w w (fun _ => 0) (Fin0.zero _ _) (Below.refl _ _) 1)
 clear h
 go_enter Tryz.func19, Tryz.ntmps19
 go_wp2_with fail
 refine (CN.out).mono ?_
 rintro e w1 ⟨rb, O1, rfl, n1, st1⟩
 have nb := HB.out.below ((st1 1).below (Fin0.zero _ _) (by decide) (Nat.le_refl _))
 have P1 := Lib.hid (pk_new n1)
 have F1 := Lib.hid n1.fin
 have L1 := Lib.hid n1.low
 obtain ⟨v, n, g, s, iv⟩ := nb.st
 have c0 := s.hd.c0
 have hn := iv.le
 obtain ⟨A, cc, rfl, _, _, _⟩ := s.row.form
 have SO := Lib.hid s.row.own
 have IV := Lib.hid iv
 clear n1 st1 nb s iv CN
 go_wp2_with (at_builtin; (refine wpList_app_row rfl (.const (.slice none 0 0)) (.tmp 14) rfl bk_type hi hz0 hz1 hz2 rfl (by decide) w1 w1.heap.size w0.heap.size 0 n cc _ _ [] _ rfl rfl (World.ownsRow_nil _ _ _ _) SO.out (rl_one be_one) (by unfold maxLen; omega) (by omega) (Below.refl _ _) (Nat.le_refl _) ?_; intro v1 w2 ho1 hb1 hg1; rw [Nat.zero_add, List.nil_append] at ho1; have HO := Lib.hid ho1; have K2 := Lib.hid hb1; clear ho1 hb1 hg1))
 obtain ⟨A1, c1, rfl, hc1, hm1, _⟩ := own_form HO.out
 obtain ⟨O2, m2, st2⟩ := fresh_marked F1.out L1.out.size K2.out HO.out 3
 have P2 := Lib.hid (P1.out.step (st2 3) (by decide) (by decide))
 have T2 : Hid (LT w2 O2 w1.heap.size 3 (.slice A1 n c1) n g) := Lib.hid ⟨HO.out, fun b hb => (m2 b hb).1⟩
 have I2 := Lib.hid (OfInv.start IV.out.is)
 have MS := Lib.hid IV.out.mon
 have MT := Lib.hid IV.out.all
 obtain ⟨Tt, hTt⟩ : ∃ Tt, btot g n = Tt := ⟨_, rfl⟩
 rw [hTt] at I2 MT
 clear m2 st2 hTt SO IV HB c0
 go_loopg [4] n (fun gh s4 wr => ∃ (q c : Nat) (h : Nat → Bk) (A : Option Addr) (Sr L : Int → Int → Int) (T : Int) (m : Nat) (O3 : Nat → Nat), q ≤ gh ∧ s4 = .slice A q c ∧ PK w wr O3 rb Sr m T ∧ LT wr O3 w1.heap.size 3 (.slice A q c) q h ∧ OfInv S Tt n Sr T m L h q)
 case atStart => exact ⟨n, c1, g, A1, _, _, _, _, O2, Nat.le_refl _, rfl, P2.out, T2.out, I2.out⟩
 case round =>
   obtain ⟨q, c, h, A, Sr, L, T, m, O3, hq, rfl, hp, ht, hi'⟩ := hrel
   have HP := Lib.hid hp
   have HT := Lib.hid ht
   have HI := Lib.hid hi'
   have HQ := Lib.hid hq
   clear hp ht hi' hq P2 T2 I2
   obtain ⟨wo, rfl⟩ : ∃ wo, wo = wr := ⟨_, rfl⟩
   by_cases hq0 : 0 < q
   · have hq1 : (0 : Int) < (q : Int) := by omega
     have hqn := HI.out.cnt
     obtain ⟨b, c', e, hcc, hcm⟩ := own_some HT.out.own hq0
     injection e with e1 _ e3
     subst e1 e3
     go_wp2
     go_loopg [5, 21] q (fun gh s5 s21 wx => ∃ i k : Nat, i ≤ q ∧ gh = q - i ∧ s21 = .int .i64 i ∧ s5 = .int .i64 k ∧ ((k < i ∧ Nxt T (h k)) ∨ (k = 0 ∧ ∀ j, j < i → ¬ Nxt T (h j))) ∧ Below wo.heap.size wo wx)
     case atStart => exact ⟨0, 0, Nat.zero_le _, rfl, rfl, rfl, .inr ⟨rfl, fun j hj => absurd hj (Nat.not_lt_zero _)⟩, Below.refl _ _⟩
     case round =>
       obtain ⟨i, k, hi1, hgi, rfl, rfl, hpk, hbx⟩ := hrel
       have HGI := Lib.hid hgi
       have HPK := Lib.hid hpk
       have KX := Lib.hid hbx
       clear hgi hpk hbx
       by_cases hiq : i < q
       · obtain ⟨_, c0, c1', c2⟩ := own_three (HT.out.own.below KX.out) hiq
         have hiq' : (i : Int) < (q : Int) := by omega
         have hi0 : (0 : Int) ≤ (i : Int) := by omega
         obtain ⟨gr, br, hgr⟩ := HP.out.is
         have CT := Lib.hid fun wz (k : Below wo.heap.size wo wz) => pbtotal (HP.out.now.below k) br
         rw [hgr] at CT
         obtain ⟨x, hx⟩ : ∃ x, h i = x := ⟨_, rfl⟩
         rw [hx] at c0 c1' c2
         have HX := Lib.hid hx
         have NL := rec_lit wr (be x) 81 wr.heap.size rfl
         have x2 := NL 2 _ rfl
         have KL : Hid (Below wo.heap.size wo ((wr.alloc (.cells (be x).toArray 81)).drew)) := Lib.hid (KX.out.alloc KX.out.size _).drew
         clear NL br hgr hx
         simp only [be] at x2 KL
         have Y2 : Hid ((wr.alloc (.cells #[.int .i64 x.c, .int .i64 x.y, .int .i64 x.a] 81)).drew.cell? ⟨wr.heap.size, 2, none⟩ = some (.int .i64 x.a)) := Lib.hid x2
         by_cases hn' : Nxt T x
         · have hq' : (decide (0 < T) == decide (x.a < 0)) = true := by
             unfold Nxt at hn'
             rw [beq_iff_eq, decide_eq_decide]; exact hn'
           have HN := Lib.hid hn'
           clear hn'
           go_wp2
           go_region_held3 (fun w' => w'.cell? ⟨wr.heap.size, 2, none⟩ = some (.int .i64 x.a)) (first | go_keep) (first | (go_at_call 56; (refine (CT.out _ KL.out).mono ?_); rintro e w3 ⟨rfl, hb3⟩; have x3 := cell_keep Y2.out hb3; have K3 := Lib.hid (KL.out.trans (hb3.mono KL.out.size)); clear hb3))
           go_wp2
           go_roundg (q - (i + 1))
           case measure => have := HGI.out; omega
           case rel => exact ⟨i + 1, i, by omega, rfl, by go_num, rfl, .inl ⟨by omega, by rw [HX.out]; exact HN.out⟩, K3.out⟩
         · have hq' : (decide (0 < T) == decide (x.a < 0)) = false := by
             unfold Nxt at hn'
             rw [beq_eq_false_iff_ne, ne_eq, decide_eq_decide]; exact hn'
           have HN := Lib.hid hn'
           clear hn'
           go_wp2
           go_region_held3 (fun w' => w'.cell? ⟨wr.heap.size, 2, none⟩ = some (.int .i64 x.a)) (first | go_keep) (first | (go_at_call 56; (refine (CT.out _ KL.out).mono ?_); rintro e w3 ⟨rfl, hb3⟩; have x3 := cell_keep Y2.out hb3; have K3 := Lib.hid (KL.out.trans (hb3.mono KL.out.size)); clear hb3))
           go_wp2
           go_roundg (q - (i + 1))
           case measure => have := HGI.out; omega
           case rel => exact ⟨i + 1, k, by omega, rfl, by go_num, rfl, HPK.out.imp (fun z => ⟨by omega, z.2⟩) (fun z => ⟨z.1, fun j hj => by
               by_cases e : j = i
               · rw [e, HX.out]; exact HN.out
               · exact z.2 j (by omega)⟩), K3.out⟩
       · obtain rfl : i = q := by omega
         clear hiq
         have hkq : k < i := by
           rcases HPK.out with z | z
           · exact z.1
           · omega
         obtain ⟨_, c0, c1', c2⟩ := own_three (HT.out.own.below KX.out) hkq
         have hk1 : (k : Int) < (i : Int) := by omega
         have hk0 : (0 : Int) ≤ (k : Int) := by omega
         obtain ⟨z1, z2⟩ := HI.out.at hkq
         obtain ⟨gr, br, hgr⟩ := HP.out.is
         have hok := HI.out.isL.1.ok k hkq
         have hnz := HI.out.isL.1.nz k hkq
         have hall : ∀ j, j < i → Mon (h j).a := fun j hj => by rw [← (HI.out.at hj).2]; exact MS.out _ _
         have hma := hall k hkq
         have hTm := HP.out.le.2
         have hpm : Mon (T + (h k).a) := pick_mon hTm hall (by rw [HI.out.tot]; exact MT.out) hkq (HPK.out.imp (fun z => z.2) fun z => z.2)
         have HN := Lib.hid (HI.out.next hkq)
         obtain ⟨x, hx⟩ : ∃ x, h k = x := ⟨_, rfl⟩
         rw [hx] at c0 c1' c2 z1 z2 hok hnz hma hpm HN
         have CM := Lib.hid (pbmove (HP.out.now.below KX.out |>.below (below_drew wr)) (by decide) br x.c x.y x.a 0 (.ok ⟨hok, hma⟩ (by rw [z1, hgr, Int.zero_add]; exact ⟨hma, hpm⟩) (by rw [z1]; unfold cntB; rw [if_pos rfl, if_neg (by omega)]; omega)))
         have HX := Lib.hid hx
         have OKX := Lib.hid hok
         have Z1 := Lib.hid z1
         have NZ := Lib.hid hnz
         have BR := Lib.hid br
         have GR := Lib.hid hgr
         clear hx hok z1 z2 hall hma hTm hpm hnz br hgr
         go_wp2
         go_region_held3 (fun w' => w'.cell? ⟨b, k * 3, none⟩ = some (.int .i64 x.c) ∧ w'.cell? ⟨b, k * 3 + 1, none⟩ = some (.int .i64 x.y) ∧ w'.cell? ⟨b, k * 3 + 2, none⟩ = some (.int .i64 x.a)) (first | go_keep) (first | (go_at_call 9; (refine (CM.out).mono ?_); rintro e w3 ⟨rfl, O4, n4, s4⟩; have t4 := ((HT.out.below KX.out).below (below_drew wr)).step s4 (by decide); obtain ⟨_, k0, k1, k2⟩ := own_three t4.own hkq; rw [HX.out] at k0 k1 k2; have T4 := Lib.hid t4; have N4 := Lib.hid n4; clear t4 n4 s4))
         have P4 : Hid (PK w w3 O4 rb (upS Sr x.c x.y x.a) (m + 1) (T + x.a)) := Lib.hid (by
           have n4 : NowP w w3 O4 1 rb (upS Sr x.c x.y (Sr x.c x.y + x.a)) := N4.out
           rw [Z1.out, Int.zero_add] at n4
           obtain ⟨m4, g4, iv⟩ := n4.told
           obtain ⟨e1, e2⟩ := bis_count BR.out OKX.out iv.is
           rw [Z1.out] at e1 e2
           unfold cntB at e1
           rw [if_pos rfl, if_neg NZ.out] at e1
           obtain rfl : m4 = m + 1 := by omega
           exact ⟨n4, g4, iv.is, by rw [e2, GR.out]; omega⟩)
         obtain ⟨L5, CS, hg, hcl, hcs, h1c, hfit, hend⟩ := own_cut T4.out.own hkq
         have HG := Lib.hid hg
         have HCL := Lib.hid hcl
         have H1 := Lib.hid h1c
         have HF := Lib.hid hfit
         have HE := Lib.hid hend
         have hi2 : (k : Int) ≤ (i : Int) := by omega
         have hi3 : (k : Int) + 1 ≤ (i : Int) := by omega
         have hi4 : (0 : Int) ≤ (k : Int) + 1 := by omega
         have hi5 : IntKind.i64.wrap ((k : Int) + 1) = (k : Int) + 1 := IntWalk.i64_in _ (by omega)
         have hi6 : k ≤ c := by omega
         have hi7 : (k : Int) ≤ (c : Int) := by omega
         have hi8 : k ≤ i := by omega
         have hro : Hid (k + (i - (k + 1)) ≤ c) := Lib.hid (by omega)
         have HEQ : Hid (k + (i - (k + 1)) = i - 1) := Lib.hid (by omega)
         have hcs0 := Lib.hid hcs
         clear hg hcl hcs h1c hfit hend k0 k1 k2 c0 c1' c2
         go_wp2
         by_cases hc : c = k + 1
         · have HCL0 : Hid (CS.length = 0 * 3) := Lib.hid (by have := HCL.out; omega)
           have HCS : Hid (∀ j v, CS[j]? = some v → w3.cell? ((⟨b, 0, none⟩ : Addr).add j) = some v) := Lib.hid (by
             obtain rfl : CS = [] := List.eq_nil_of_length_eq_zero (by have := HCL0.out; omega)
             intro j v hj
             cases hj)
           have hro0 : Hid (k + 0 ≤ k + 1) := Lib.hid (by omega)
           have HEQ0 : Hid (k + 0 = i - 1) := Lib.hid (by omega)
           have hi9 : (k : Int) ≤ (k : Int) + 1 := by omega
           subst hc
           go_region_law (refine step_append_k rfl (.tmp 55) (.tmp 59) 32 rfl bk_type hi hz1 b k (k + 1) _ 0 (0) (by simp [Act.eval, Act.put]) (by simp [Act.eval, Act.put]) L5 HG.out CS HCL0.out hro0.out HCS.out HF.out H1.out b w3 ⟨rfl, rfl, rfl, Nat.le_refl _, fun _ _ => rfl⟩ (Nat.le_refl _) ?_; intro w4 hg4 ho4 hb4; rw [HEQ0.out])
           go_wp2
           go_roundg (i - 1)
           case measure => have := HQ.out; omega
           case rel =>
             have st := Step.one (t := 3) P4.out.now.fin (T4.out.tag b rfl) hb4 ho4.out
             exact ⟨i - 1, _, _, _, _, _, _, _, O4, Nat.le_refl _, rfl, P4.out.step st (by decide) (by decide), ⟨HE.out w4 hg4.out, T4.out.tag⟩, HN.out⟩
         · have HCS := hcs0
           go_region_law (refine step_append_k rfl (.tmp 55) (.tmp 59) 32 rfl bk_type hi hz1 b k (c) _ (i - (k + 1)) (c - (k + 1)) (by simp [Act.eval, Act.put]) (by simp [Act.eval, Act.put]) L5 HG.out CS HCL.out hro.out HCS.out HF.out H1.out b w3 ⟨rfl, rfl, rfl, Nat.le_refl _, fun _ _ => rfl⟩ (Nat.le_refl _) ?_; intro w4 hg4 ho4 hb4; rw [HEQ.out])
           go_wp2
           go_roundg (i - 1)
           case measure => have := HQ.out; omega
           case rel =>
             have st := Step.one (t := 3) P4.out.now.fin (T4.out.tag b rfl) hb4 ho4.out
             exact ⟨i - 1, _, _, _, _, _, _, _, O4, Nat.le_refl _, rfl, P4.out.step st (by decide) (by decide), ⟨HE.out w4 hg4.out, T4.out.tag⟩, HN.out⟩
   · obtain rfl : q = 0 := by omega
     have hS := HI.out.done
     subst hS
     go_wp2
     go_ret
     exact ⟨rb, O3, rfl, HP.out.now, HP.out.now.low⟩
end Go.Proofs.YtmlafdehhbhbiaaGreat
