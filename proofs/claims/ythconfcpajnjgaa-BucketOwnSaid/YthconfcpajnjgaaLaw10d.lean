/- The law's own walk from the document's register to one of the program's (Of): moves one by one, of which none is too great on the way. -/
import Derived.Test.YthconfcpajnjgaaLaw10b
import Derived.Test.YthconfcpajnjgaaRBucket6
import Derived.WalkKit
import Derived.WalkSpells
import Derived.WalkLawsBesides
import Derived.Lib.Hide
import Derived.IntWalk
import Derived.Deep.LoopGhost
import Derived.Deep.RegionHeld3
import Derived.Deep.RegionLaw
namespace Go.Proofs.Ythconfcpajnjgaa
open Go.RowKit

/-- rows of buckets under a mark -/
structure LT (w : World) (O : Nat → Nat) (base t : Nat) (v : Value) (n : Nat) (g : Nat → Bk) : Prop where
  own : OwnR be 3 w 38 base v n g
  tag : ∀ b, v.ownBlock = some b → O b = t
section
variable {w w1 : World} {O O1 : Nat → Nat} {base b0 t t' n : Nat} {v : Value} {g : Nat → Bk}
theorem LT.below (h : LT w O base t v n g) (k : Below w.heap.size w w1) : LT w1 O base t v n g := ⟨h.own.below k, h.tag⟩
theorem LT.step (h : LT w O base t v n g) (k : Step b0 O t' w O1 w1) (hne : t ≠ t') : LT w1 O1 base t v n g :=
  ⟨h.own.blocks fun b hb => k.kept.block b (h.own.lt b hb).2 (by rw [h.tag b hb]; exact hne), fun b hb => (k.ext b (h.own.lt b hb).2).trans (h.tag b hb)⟩
/-- only one block is written, which bears the mark -/
theorem Step.one {b : Nat} (f : Fin0 b0 O w) (hO : O b = t) (k : Below b w w1) (ho : ∀ q, q ≠ b → w1.heap[q]? = w.heap[q]?) : Step b0 O t w O w1 :=
  ⟨⟨k.os, k.tape, k.output, k.size, fun i _ hi => ho i fun e => hi (by rw [e]; exact hO)⟩, fun _ _ => rfl, f.1, fun i hi => f.2 i (Nat.le_trans k.size hi)⟩
theorem PK.step {w0 : World} {sb m : Nat} {S : Int → Int → Int} {T : Int} (h : PK w0 w O sb S m T) (k : Step w0.heap.size O t' w O1 w1) (h1 : 1 ≠ t') (h2 : t' ≠ 0) : PK w0 w1 O1 sb S m T := ⟨h.now.step k h1 h2, h.is⟩
end
theorem own_three {w : World} {base n c k b : Nat} {g : Nat → Bk} (o : OwnR be 3 w 38 base (.slice (some ⟨b, 0, none⟩) n c) n g) (hk : k < n) : b < w.heap.size ∧ w.cell? ⟨b, k * 3, none⟩ = some (.int .i64 (g k).c) ∧ w.cell? ⟨b, k * 3 + 1, none⟩ = some (.int .i64 (g k).y) ∧ w.cell? ⟨b, k * 3 + 2, none⟩ = some (.int .i64 (g k).a) := by
  obtain ⟨_, _, e, _, _, _, hb, hc, _⟩ := o.some be_len (by omega)
  injection e with e1 _ _
  injection e1 with e1
  injection e1 with e1
  subst e1
  exact ⟨hb, hc k hk 0 _ rfl, hc k hk 1 _ rfl, hc k hk 2 _ rfl⟩
/-- what the register has, and what is left, is all -/
structure OfInv (S : Int → Int → Int) (Tt : Int) (n : Nat) (Sr : Int → Int → Int) (T : Int) (m : Nat) (L : Int → Int → Int) (h : Nat → Bk) (q : Nat) : Prop where
  isL : BIs L q h
  sum : ∀ c y, Sr c y + L c y = S c y
  dis : ∀ c y, L c y ≠ 0 → Sr c y = 0
  tot : T + btot h q = Tt
  cnt : m + q = n
section
variable {S Sr L : Int → Int → Int} {Tt T : Int} {n m q k : Nat} {g h : Nat → Bk}
theorem OfInv.start (b : BIs S n g) : OfInv S (btot g n) n S0 0 0 S g n :=
  ⟨b, fun c y => by unfold S0; omega, fun _ _ _ => rfl, by omega, by omega⟩
theorem OfInv.at (o : OfInv S Tt n Sr T m L h q) (hk : k < q) : Sr (h k).c (h k).y = 0 ∧ S (h k).c (h k).y = (h k).a := by
  have e := o.isL.at hk
  have z := o.dis (h k).c (h k).y (by rw [e]; exact o.isL.1.nz k hk)
  have := o.sum (h k).c (h k).y
  exact ⟨z, by omega⟩
theorem OfInv.next (o : OfInv S Tt n Sr T m L h q) (hk : k < q) : OfInv S Tt n (upS Sr (h k).c (h k).y (h k).a) (T + (h k).a) (m + 1) (upS L (h k).c (h k).y 0) (delB h k) (q - 1) := by
  obtain ⟨q', rfl⟩ : ∃ q', q = q' + 1 := ⟨q - 1, by omega⟩
  obtain ⟨k1, k2⟩ := bis_del o.isL hk
  obtain ⟨z1, z2⟩ := o.at hk
  refine ⟨k1, fun c y => ?_, fun c y hne => ?_, by have := o.tot; simp only [Nat.add_sub_cancel]; omega, by have := o.cnt; omega⟩
  · unfold upS
    by_cases e : c = (h k).c ∧ y = (h k).y
    · rw [if_pos e, if_pos e, e.1, e.2, z2]; omega
    · rw [if_neg e, if_neg e]; exact o.sum c y
  · unfold upS at hne ⊢
    by_cases e : c = (h k).c ∧ y = (h k).y
    · rw [if_pos e] at hne; exact absurd rfl hne
    · rw [if_neg e] at hne ⊢; exact o.dis c y hne
theorem OfInv.done (o : OfInv S Tt n Sr T m L h 0) : Sr = S := by
  funext c y
  have e : L c y = 0 := by rw [← o.isL.2]; rfl
  have := o.sum c y
  omega
end
theorem tot_ge {f : Nat → Int} {k : Nat} : ∀ n, k < n → (∀ j, j < n → 0 ≤ f j) → f k ≤ tot f n := by
  intro n hk h
  have nn : ∀ m, m ≤ n → 0 ≤ tot f m := by
    intro m
    induction m with
    | zero => intro _; simp [tot]
    | succ m ih => intro hm; rw [tot]; have := ih (by omega); have := h m (by omega); omega
  induction n with
  | zero => omega
  | succ n ih =>
    rw [tot]
    by_cases e : k = n
    · subst e; have := nn k (by omega); omega
    · have := ih (by omega) (fun j hj => h j (by omega)) (fun m hm => nn m (by omega))
      have := h n (by omega)
      omega
theorem tot_le1 {f : Nat → Int} {k : Nat} (n : Nat) (hk : k < n) (h : ∀ j, j < n → f j ≤ 0) : tot f n ≤ f k := by
  have := tot_ge (f := fun j => - f j) (k := k) n hk fun j hj => by have := h j hj; show 0 ≤ - f j; omega
  have e : ∀ m, tot (fun j => - f j) m = - tot f m := by
    intro m
    induction m with
    | zero => simp [tot]
    | succ m ih => rw [tot, tot, ih]; omega
  rw [e] at this
  try dsimp only at this
  omega
/-- which bucket goes next -/
def Nxt (T : Int) (x : Bk) : Prop := 0 < T ↔ x.a < 0
theorem pick_mon {T : Int} {h : Nat → Bk} {q k : Nat} (hT : Mon T) (ha : ∀ j, j < q → Mon (h j).a) (hE : Mon (T + btot h q)) (hk : k < q) (hp : Nxt T (h k) ∨ ∀ j, j < q → ¬ Nxt T (h j)) : Mon (T + (h k).a) := by
  have hak := ha k hk
  unfold Mon at *
  rcases hp with p | p
  · unfold Nxt at p
    by_cases z : 0 < T
    · have := p.1 z; omega
    · have : ¬ (h k).a < 0 := fun e => z (p.2 e)
      omega
  · by_cases z : 0 < T
    · have pos : ∀ j, j < q → 0 ≤ (h j).a := fun j hj => by
        have := p j hj
        unfold Nxt at this
        by_cases e : (h j).a < 0
        · exact absurd (iff_of_true z e) this
        · omega
      have := tot_ge (f := fun j => (h j).a) q hk pos
      unfold btot at hE
      try dsimp only at this
      have := pos k hk
      omega
    · have neg : ∀ j, j < q → (h j).a ≤ 0 := fun j hj => by
        have := p j hj
        unfold Nxt at this
        by_cases e : (h j).a < 0
        · omega
        · exact absurd (iff_of_false z e) this
      have := tot_le1 (f := fun j => (h j).a) q hk neg
      unfold btot at hE
      try dsimp only at this
      have := neg k hk
      omega
set_option maxHeartbeats 8000000 in
set_option maxRecDepth 100000 in
theorem bof {w wa : World} {O : Nat → Nat} {sb : Nat} {S : Int → Int → Int} (h : NowB w wa O 2 sb S) :
    Calls Try.prog 23 #[ptr sb] wa fun e w' => ∃ rb O' n T, e = .returned (ptr rb) ∧ PK w w' O' rb S n T := by
  obtain ⟨i0, hi, hz0, hz1, hz2⟩ := info_parts bk_info
  have HB := Lib.hid h
  have CN := Lib.hid (pbnew w wa O h.fin h.low 1)
  clear h
  go_enter Try.func23, Try.ntmps23
  go_wp2_with fail
  refine (CN.out).mono ?_
  rintro e w1 ⟨rb, O1, rfl, n1, st1⟩
  have nb := HB.out.step (st1 1) (by decide) (by decide)
  have P1 := Lib.hid (pk_new n1)
  have F1 := Lib.hid n1.fin
  have L1 := Lib.hid n1.low
  obtain ⟨v, n, g, s, iv⟩ := nb.st
  have c0 := s.hd.c0
  have hn := iv.le
  obtain ⟨A, cc, rfl, _, _, _⟩ := s.row.form
  have SO := Lib.hid s.row.own
  have IV := Lib.hid iv
  clear n1 st1 nb s iv CN
  go_wp2_with (at_builtin; (refine wpList_app_row rfl (.const (.slice none 0 0)) (.tmp 14) rfl bk_type hi hz0 hz1 hz2 rfl (by decide) w1 w1.heap.size w.heap.size 0 n cc _ _ [] _ rfl rfl (World.ownsRow_nil _ _ _ _) SO.out (rl_one be_one) (by unfold maxLen; omega) (by omega) (Below.refl _ _) (Nat.le_refl _) ?_; intro v1 w2 ho1 hb1 hg1; rw [Nat.zero_add, List.nil_append] at ho1; have HO := Lib.hid ho1; have K2 := Lib.hid hb1; clear ho1 hb1 hg1))
  obtain ⟨A1, c1, rfl, hc1, hm1, _⟩ := own_form HO.out
  obtain ⟨O2, m2, st2⟩ := fresh_marked F1.out L1.out.size K2.out HO.out 3
  have P2 := Lib.hid (P1.out.step (st2 3) (by decide) (by decide))
  have T2 : Hid (LT w2 O2 w1.heap.size 3 (.slice A1 n c1) n g) := Lib.hid ⟨HO.out, fun b hb => (m2 b hb).1⟩
  have I2 := Lib.hid (OfInv.start IV.out.is)
  have MS := Lib.hid IV.out.mon
  have MT := Lib.hid IV.out.all
  obtain ⟨Tt, hTt⟩ : ∃ Tt, btot g n = Tt := ⟨_, rfl⟩
  rw [hTt] at I2 MT
  clear m2 st2 hTt SO IV HB c0
  go_loopg [4] n (fun gh s4 wr => ∃ (q c : Nat) (h : Nat → Bk) (A : Option Addr) (Sr L : Int → Int → Int) (T : Int) (m : Nat) (O3 : Nat → Nat), q ≤ gh ∧ s4 = .slice A q c ∧ PK w wr O3 rb Sr m T ∧ LT wr O3 w1.heap.size 3 (.slice A q c) q h ∧ OfInv S Tt n Sr T m L h q)
  case atStart => exact ⟨n, c1, g, A1, _, _, _, _, O2, Nat.le_refl _, rfl, P2.out, T2.out, I2.out⟩
  case round =>
    obtain ⟨q, c, h, A, Sr, L, T, m, O3, hq, rfl, hp, ht, hi'⟩ := hrel
    have HP := Lib.hid hp
    have HT := Lib.hid ht
    have HI := Lib.hid hi'
    have HQ := Lib.hid hq
    clear hp ht hi' hq P2 T2 I2
    obtain ⟨wo, rfl⟩ : ∃ wo, wo = wr := ⟨_, rfl⟩
    by_cases hq0 : 0 < q
    · have hq1 : (0 : Int) < (q : Int) := by omega
      have hqn := HI.out.cnt
      obtain ⟨b, c', e, hcc, hcm⟩ := own_some HT.out.own hq0
      injection e with e1 _ e3
      subst e1 e3
      go_wp2
      go_loopg [5, 21] q (fun gh s5 s21 wx => ∃ i k : Nat, i ≤ q ∧ gh = q - i ∧ s21 = .int .i64 i ∧ s5 = .int .i64 k ∧ ((k < i ∧ Nxt T (h k)) ∨ (k = 0 ∧ ∀ j, j < i → ¬ Nxt T (h j))) ∧ Below wo.heap.size wo wx)
      case atStart => exact ⟨0, 0, Nat.zero_le _, rfl, rfl, rfl, .inr ⟨rfl, fun j hj => absurd hj (Nat.not_lt_zero _)⟩, Below.refl _ _⟩
      case round =>
        obtain ⟨i, k, hi1, hgi, rfl, rfl, hpk, hbx⟩ := hrel
        have HGI := Lib.hid hgi
        have HPK := Lib.hid hpk
        have KX := Lib.hid hbx
        clear hgi hpk hbx
        by_cases hiq : i < q
        · obtain ⟨_, c0, c1', c2⟩ := own_three (HT.out.own.below KX.out) hiq
          have hiq' : (i : Int) < (q : Int) := by omega
          have hi0 : (0 : Int) ≤ (i : Int) := by omega
          obtain ⟨gr, br, hgr⟩ := HP.out.is
          have CT := Lib.hid fun wz (k : Below wo.heap.size wo wz) => pbtotal (HP.out.now.below k) br
          rw [hgr] at CT
          obtain ⟨x, hx⟩ : ∃ x, h i = x := ⟨_, rfl⟩
          rw [hx] at c0 c1' c2
          have HX := Lib.hid hx
          have NL := rec_lit wr (be x) 38 wr.heap.size rfl
          have x2 := NL 2 _ rfl
          have KL : Hid (Below wo.heap.size wo ((wr.alloc (.cells (be x).toArray 38)).drew)) := Lib.hid (KX.out.alloc KX.out.size _).drew
          clear NL br hgr hx
          simp only [be] at x2 KL
          have Y2 : Hid ((wr.alloc (.cells #[.int .i64 x.c, .int .i64 x.y, .int .i64 x.a] 38)).drew.cell? ⟨wr.heap.size, 2, none⟩ = some (.int .i64 x.a)) := Lib.hid x2
          by_cases hn' : Nxt T x
          · have hq' : (decide (0 < T) == decide (x.a < 0)) = true := by
              unfold Nxt at hn'
              rw [beq_iff_eq, decide_eq_decide]; exact hn'
            have HN := Lib.hid hn'
            clear hn'
            go_wp2
            go_region_held3 (fun w' => w'.cell? ⟨wr.heap.size, 2, none⟩ = some (.int .i64 x.a)) (first | go_keep) (first | (go_at_call 11; (refine (CT.out _ KL.out).mono ?_); rintro e w3 ⟨rfl, hb3⟩; have x3 := cell_keep Y2.out hb3; have K3 := Lib.hid (KL.out.trans (hb3.mono KL.out.size)); clear hb3))
            go_wp2
            go_roundg (q - (i + 1))
            case measure => have := HGI.out; omega
            case rel => exact ⟨i + 1, i, by omega, rfl, by go_num, rfl, .inl ⟨by omega, by rw [HX.out]; exact HN.out⟩, K3.out⟩
          · have hq' : (decide (0 < T) == decide (x.a < 0)) = false := by
              unfold Nxt at hn'
              rw [beq_eq_false_iff_ne, ne_eq, decide_eq_decide]; exact hn'
            have HN := Lib.hid hn'
            clear hn'
            go_wp2
            go_region_held3 (fun w' => w'.cell? ⟨wr.heap.size, 2, none⟩ = some (.int .i64 x.a)) (first | go_keep) (first | (go_at_call 11; (refine (CT.out _ KL.out).mono ?_); rintro e w3 ⟨rfl, hb3⟩; have x3 := cell_keep Y2.out hb3; have K3 := Lib.hid (KL.out.trans (hb3.mono KL.out.size)); clear hb3))
            go_wp2
            go_roundg (q - (i + 1))
            case measure => have := HGI.out; omega
            case rel => exact ⟨i + 1, k, by omega, rfl, by go_num, rfl, HPK.out.imp (fun z => ⟨by omega, z.2⟩) (fun z => ⟨z.1, fun j hj => by
                by_cases e : j = i
                · rw [e, HX.out]; exact HN.out
                · exact z.2 j (by omega)⟩), K3.out⟩
        · obtain rfl : i = q := by omega
          clear hiq
          have hkq : k < i := by
            rcases HPK.out with z | z
            · exact z.1
            · omega
          obtain ⟨_, c0, c1', c2⟩ := own_three (HT.out.own.below KX.out) hkq
          have hk1 : (k : Int) < (i : Int) := by omega
          have hk0 : (0 : Int) ≤ (k : Int) := by omega
          obtain ⟨z1, z2⟩ := HI.out.at hkq
          obtain ⟨gr, br, hgr⟩ := HP.out.is
          have hok := HI.out.isL.1.ok k hkq
          have hnz := HI.out.isL.1.nz k hkq
          have hall : ∀ j, j < i → Mon (h j).a := fun j hj => by rw [← (HI.out.at hj).2]; exact MS.out _ _
          have hma := hall k hkq
          have hTm := HP.out.le.2
          have hpm : Mon (T + (h k).a) := pick_mon hTm hall (by rw [HI.out.tot]; exact MT.out) hkq (HPK.out.imp (fun z => z.2) fun z => z.2)
          have HN := Lib.hid (HI.out.next hkq)
          obtain ⟨x, hx⟩ : ∃ x, h k = x := ⟨_, rfl⟩
          rw [hx] at c0 c1' c2 z1 z2 hok hnz hma hpm HN
          have CM := Lib.hid (pbmove (HP.out.now.below KX.out |>.below (below_drew wr)) (by decide) br x.c x.y x.a 0 (.ok ⟨hok, hma⟩ (by rw [z1, hgr, Int.zero_add]; exact ⟨hma, hpm⟩) (by rw [z1]; unfold cntB; rw [if_pos rfl, if_neg (by omega)]; omega)))
          have HX := Lib.hid hx
          have OKX := Lib.hid hok
          have Z1 := Lib.hid z1
          have NZ := Lib.hid hnz
          have BR := Lib.hid br
          have GR := Lib.hid hgr
          clear hx hok z1 z2 hall hma hTm hpm hnz br hgr
          go_wp2
          go_region_held3 (fun w' => w'.cell? ⟨b, k * 3, none⟩ = some (.int .i64 x.c) ∧ w'.cell? ⟨b, k * 3 + 1, none⟩ = some (.int .i64 x.y) ∧ w'.cell? ⟨b, k * 3 + 2, none⟩ = some (.int .i64 x.a)) (first | go_keep) (first | (go_at_call 10; (refine (CM.out).mono ?_); rintro e w3 ⟨rfl, O4, n4, s4⟩; have t4 := ((HT.out.below KX.out).below (below_drew wr)).step s4 (by decide); obtain ⟨_, k0, k1, k2⟩ := own_three t4.own hkq; rw [HX.out] at k0 k1 k2; have T4 := Lib.hid t4; have N4 := Lib.hid n4; clear t4 n4 s4))
          have P4 : Hid (PK w w3 O4 rb (upS Sr x.c x.y x.a) (m + 1) (T + x.a)) := Lib.hid (by
            have n4 : NowP w w3 O4 1 rb (upS Sr x.c x.y (Sr x.c x.y + x.a)) := N4.out
            rw [Z1.out, Int.zero_add] at n4
            obtain ⟨m4, g4, iv⟩ := n4.told
            obtain ⟨e1, e2⟩ := bis_count BR.out OKX.out iv.is
            rw [Z1.out] at e1 e2
            unfold cntB at e1
            rw [if_pos rfl, if_neg NZ.out] at e1
            obtain rfl : m4 = m + 1 := by omega
            exact ⟨n4, g4, iv.is, by rw [e2, GR.out]; omega⟩)
          obtain ⟨L5, CS, hg, hcl, hcs, h1c, hfit, hend⟩ := own_cut T4.out.own hkq
          have HG := Lib.hid hg
          have HCL := Lib.hid hcl
          have H1 := Lib.hid h1c
          have HF := Lib.hid hfit
          have HE := Lib.hid hend
          have hi2 : (k : Int) ≤ (i : Int) := by omega
          have hi3 : (k : Int) + 1 ≤ (i : Int) := by omega
          have hi4 : (0 : Int) ≤ (k : Int) + 1 := by omega
          have hi5 : IntKind.i64.wrap ((k : Int) + 1) = (k : Int) + 1 := IntWalk.i64_in _ (by omega)
          have hi6 : k ≤ c := by omega
          have hi7 : (k : Int) ≤ (c : Int) := by omega
          have hi8 : k ≤ i := by omega
          have hro : Hid (k + (i - (k + 1)) ≤ c) := Lib.hid (by omega)
          have HEQ : Hid (k + (i - (k + 1)) = i - 1) := Lib.hid (by omega)
          have hcs0 := Lib.hid hcs
          clear hg hcl hcs h1c hfit hend k0 k1 k2 c0 c1' c2
          go_wp2
          by_cases hc : c = k + 1
          · have HCL0 : Hid (CS.length = 0 * 3) := Lib.hid (by have := HCL.out; omega)
            have HCS : Hid (∀ j v, CS[j]? = some v → w3.cell? ((⟨b, 0, none⟩ : Addr).add j) = some v) := Lib.hid (by
              obtain rfl : CS = [] := List.eq_nil_of_length_eq_zero (by have := HCL0.out; omega)
              intro j v hj
              cases hj)
            have hro0 : Hid (k + 0 ≤ k + 1) := Lib.hid (by omega)
            have HEQ0 : Hid (k + 0 = i - 1) := Lib.hid (by omega)
            have hi9 : (k : Int) ≤ (k : Int) + 1 := by omega
            subst hc
            go_region_law (refine step_append_k rfl (.tmp 55) (.tmp 59) 29 rfl bk_type hi hz1 b k (k + 1) _ 0 (0) (by simp [Act.eval, Act.put]) (by simp [Act.eval, Act.put]) L5 HG.out CS HCL0.out hro0.out HCS.out HF.out H1.out b w3 ⟨rfl, rfl, rfl, Nat.le_refl _, fun _ _ => rfl⟩ (Nat.le_refl _) ?_; intro w4 hg4 ho4 hb4; rw [HEQ0.out])
            go_wp2
            go_roundg (i - 1)
            case measure => have := HQ.out; omega
            case rel =>
              have st := Step.one (t := 3) P4.out.now.fin (T4.out.tag b rfl) hb4 ho4.out
              exact ⟨i - 1, _, _, _, _, _, _, _, O4, Nat.le_refl _, rfl, P4.out.step st (by decide) (by decide), ⟨HE.out w4 hg4.out, T4.out.tag⟩, HN.out⟩
          · have HCS := hcs0
            go_region_law (refine step_append_k rfl (.tmp 55) (.tmp 59) 29 rfl bk_type hi hz1 b k (c) _ (i - (k + 1)) (c - (k + 1)) (by simp [Act.eval, Act.put]) (by simp [Act.eval, Act.put]) L5 HG.out CS HCL.out hro.out HCS.out HF.out H1.out b w3 ⟨rfl, rfl, rfl, Nat.le_refl _, fun _ _ => rfl⟩ (Nat.le_refl _) ?_; intro w4 hg4 ho4 hb4; rw [HEQ.out])
            go_wp2
            go_roundg (i - 1)
            case measure => have := HQ.out; omega
            case rel =>
              have st := Step.one (t := 3) P4.out.now.fin (T4.out.tag b rfl) hb4 ho4.out
              exact ⟨i - 1, _, _, _, _, _, _, _, O4, Nat.le_refl _, rfl, P4.out.step st (by decide) (by decide), ⟨HE.out w4 hg4.out, T4.out.tag⟩, HN.out⟩
    · obtain rfl : q = 0 := by omega
      have hS := HI.out.done
      subst hS
      go_wp2
      go_ret
      exact ⟨rb, O3, m, T, rfl, HP.out⟩
end Go.Proofs.Ythconfcpajnjgaa
