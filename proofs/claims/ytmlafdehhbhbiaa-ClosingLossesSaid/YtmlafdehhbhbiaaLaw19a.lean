/- Law 19: a table with a rate, an empty register, no losses; the document's example. -/
import Derived.Test.YtmlafdehhbhbiaaMk
import Derived.Test.YtmlafdehhbhbiaaMkFlat
import Derived.WalkKit
import Derived.WalkSpells
import Derived.WalkLawsBesides
import Derived.Lib.Hide
import Derived.IntWalk
import Derived.Laws.StructEq
import Derived.Deep.LoopGhost
import Derived.Deep.DeepCutAuto
namespace Go.Proofs.Ytmlafdehhbhbiaa
open Go.RowKit
/-- the place of the laws -/
abbrev ukt19 : ByteArray := ⟨#[117, 107]⟩
abbrev R1of (r : Int) : Nat → Rt := pushT rno 0 ⟨ukt19, 0, r, 0⟩
theorem flat1 (r : Int) : Flat (R1of r) 1 ukt19 r := flat_first rno ukt19 r
/-- what a close made, taken among what lives on -/
theorem join_all {w wm w3 : World} {O O' : Nat → Nat} {E : TypeId} {t1 t2 t4 tb rb lb n : Nat} {R : Nat → Rt} {S SL : Int → Int → Int} (ht : NowT E w wm O t1 tb n R) (hp : NowP w wm O t2 rb S) (hb : Below wm.heap.size wm w3) (hn : NowV wm w3 O' 1 lb SL) (h1 : t1 ≠ 0) (h2 : t2 ≠ 0) :
    ∃ O4, NowT E w w3 O4 t1 tb n R ∧ NowP w w3 O4 t2 rb S ∧ NowV w w3 O4 t4 lb SL ∧ ∀ b sb sr, BalO O' wm.heap.size w3 b sb sr → BalO O4 w.heap.size w3 b sb sr := by
  have lo := ht.low.trans (hb.mono ht.low.size)
  have f := join_fin (t := t4) ht.fin ht.low.size hn.fin hb.size
  exact ⟨joinO O O' wm.heap.size t4, (ht.below hb).marks (join_old ht.fin.2 h1) f lo (Nat.le_refl _), NowB.marks (hp.below hb) (join_old ht.fin.2 h2) f lo (Nat.le_refl _), NowL.marks hn (join_new hn.fin.1) f lo ht.low.size, fun b sb sr h => h.join ht.low.size⟩
theorem results_four {fn : Func} {t u v x : Tmp} (h : fn.results = #[.tmp t, .tmp u, .tmp v, .tmp x]) (tmps : Array Value) (P : Program) (w : World) :
    (results fn tmps).run P w = .ok (.tuple #[tmps.getD t undef, tmps.getD u undef, tmps.getD v undef, tmps.getD x undef]) w := by
  simp [results, h]
set_option maxHeartbeats 8000000 in
set_option maxRecDepth 100000 in
theorem lfresh (w : World) (r : Int) (hr : 0 ≤ r ∧ r ≤ 1000000) :
    Calls Try.prog 5 #[.int .i64 r] w fun e w' => ∃ tb rb lb O, e = .returned (.tuple #[ptr tb, ptr rb, ptr lb, .bool true]) ∧ NowT 57 w w' O 1 tb 1 (R1of r) ∧ NowP w w' O 2 rb (fun _ _ => 0) ∧ NowV w w' O 3 lb (fun _ _ => 0) := by
  have TE := Lib.hid (terr_first rno (j := ukt19) (y := 0) (r := r) (p := 0) (by unfold ROk; exact ⟨by decide, by decide, by decide, hr.1, hr.2, by decide, by decide⟩))
  obtain ⟨nw, _⟩ := nowt_new w w (fun _ => 0) (Fin0.zero _ _) (Below.refl _ _) 57 61 1 rno
  have N0 := Lib.hid nw
  clear nw
  go_enter Try.func5, Try.ntmps5
  go_wp2_with fail
  refine (enew_any _).mono ?_
  rintro e w1 ⟨rfl, rfl⟩
  have CB := Lib.hid (pbnew w _ _ N0.out.fin N0.out.low 2)
  go_wp2_with fail
  refine (CB.out).mono ?_
  rintro e w2 ⟨rb, O2, rfl, np, st⟩
  have N2 := Lib.hid (N0.out.step (st 2) (by decide) (by decide))
  have P2 := Lib.hid np
  have CV := Lib.hid (pvnew w _ _ np.fin np.low 3)
  clear np st CB N0
  go_wp2_with fail
  refine (CV.out).mono ?_
  rintro e w3 ⟨lb, O3, rfl, nv, st⟩
  have N3 := Lib.hid (N2.out.step (st 3) (by decide) (by decide))
  have P3 := Lib.hid (P2.out.step (st 3) (by decide) (by decide))
  have V3 := Lib.hid nv
  have CA := Lib.hid (nadd_ok N3.out (by decide) ⟨ukt19, 0, r, 0⟩ TE.out)
  clear nv st CV N2 P2 TE
  go_wp2_with fail
  refine (CA.out).mono ?_
  rintro e w4 ⟨rfl, O4, n4, st⟩
  have P4 := Lib.hid (P3.out.step st (by decide) (by decide))
  have V4 := Lib.hid (V3.out.step st (by decide) (by decide))
  have N4 := Lib.hid n4
  clear n4 st CA N3 P3 V3
  go_wp2
  (try simp only [Exit.inBlock, Exit.then])
  refine bodyPost_ret (results_four rfl _ _ _) rfl ?_
  exact ⟨_, _, _, O4, rfl, N4.out, P4.out, V4.out⟩
set_option maxHeartbeats 8000000 in
set_option maxRecDepth 100000 in
theorem wakes19_any (w : World) : Calls Try.prog 12 #[] w fun e w' => e = .returned (.bool true) ∧ Below w.heap.size w w' := by
  have TE := Lib.hid (terr_first rno (j := ukt19) (y := 0) (r := 250000) (p := 0) (by unfold ROk; exact ⟨by decide, by decide, by decide, by decide, by decide, by decide, by decide⟩))
  obtain ⟨nw, _⟩ := nowt_new w w (fun _ => 0) (Fin0.zero _ _) (Below.refl _ _) 57 61 1 rno
  have N0 := Lib.hid nw
  clear nw
  obtain ⟨v, hv, hbare, htax, hxq, hq, hn⟩ := mk_bare (R := R1of 250000) (nr := 1) (i := ⟨ukt19, 0, 100, 0, 0, 500000, 3, 0⟩) (r := 250000) ⟨by unfold PerOk; dsimp only; omega, by unfold RtOk; dsimp only; omega, by unfold Mon; dsimp only; omega⟩ (flat1 250000 _ _ (by decide) (by decide)) (by decide) (by decide) (by decide) (by unfold Mon; decide) (fun _ => ⟨0, 0, 0⟩) (fun _ => ⟨0, 0, 0⟩)
  have tx : v.x.tax = 25 := by rw [htax]; decide
  have FT := Lib.hid (hbare.fit (by rw [tx]; unfold Mon; decide))
  have HV := Lib.hid hv
  have ET := Lib.hid (show v.tt = 25 by rw [hbare.tt, tx]; rfl)
  have ED := Lib.hid hbare.df
  clear hv hbare htax hxq hq hn tx
  go_enter Try.func12, Try.ntmps12
  go_wp2_with fail
  refine (enew_any _).mono ?_
  rintro e w1 ⟨rfl, rfl⟩
  have CA := Lib.hid (nadd_ok N0.out (by decide) ⟨ukt19, 0, 250000, 0⟩ TE.out)
  go_wp2_with fail
  refine (CA.out).mono ?_
  rintro e w4 ⟨rfl, O4, n4, st⟩
  have N4 := Lib.hid n4
  clear n4 st CA N0 TE
  go_wp2_with fail
  refine (pnone_x _).mono ?_
  rintro e w5 ⟨rfl, hb5⟩
  have N5 := Lib.hid (N4.out.below hb5)
  have CV := Lib.hid (pvnew w w5 O4 N5.out.fin N5.out.low 3)
  clear N4 hb5
  go_wp2_with fail
  refine (CV.out).mono ?_
  rintro e w6 ⟨lb, O6, rfl, nv, st⟩
  have N6 := Lib.hid (N5.out.step (st 3) (by decide) (by decide))
  have V6 := Lib.hid nv
  have CB := Lib.hid (pbnew w w6 O6 nv.fin nv.low 2)
  clear nv st CV N5
  go_wp2_with fail
  refine (CB.out).mono ?_
  rintro e w7 ⟨rb, O7, rfl, np, st⟩
  have N7 := Lib.hid (N6.out.step (st 2) (by decide) (by decide))
  have V7 := Lib.hid (V6.out.step (st 2) (by decide) (by decide))
  have P7 := Lib.hid np
  have CM := Lib.hid (pmk_ok N7.out V7.out P7.out (BInv.zero _) (VInv.zero _) MBal.none_ok (BalAt.nil w7 rfl) HV.out FT.out)
  unfold inL balL MBal.none Sl.v Sl.nil at CM
  dsimp only at CM
  clear np st CB N6 V6 HV FT
  go_wp2_with fail
  refine (CM.out).mono ?_
  rintro e w8 ⟨lb8, O8, ss, rfl, _, _, hb⟩
  have L8 := Lib.hid (N7.out.low.trans (hb.mono N7.out.low.size))
  have pc := pvc_of ⟨ukt19, 0, 100, 0, 0, 500000, 3, 0⟩ MBal.none v ss
  have p39 := pc.at' 39 _ rfl
  have p40 := pc.at' 40 _ rfl
  rw [ED.out] at p39
  rw [ET.out] at p40
  unfold MBal.none at pc p39 p40
  obtain ⟨P, hP⟩ : ∃ P, (pvL ⟨ukt19, 0, 100, 0, 0, 500000, 3, 0⟩ ⟨-1, 0, fun _ => ⟨0, 0, 0⟩, fun _ => 0, 0, 0, 0, 0, 0⟩ v ss).toArray = P := ⟨_, rfl⟩
  rw [hP] at pc p39 p40
  rw [hP]
  have PC := Lib.hid pc
  clear hb CM pc hP ED ET
  go_wp2_with ((with_reducible show wpList _ _ _ _ _ _); (refine wpList_store_row rfl 44 (.tmp 2) (.tmp 20) rfl w8.heap.size P rfl rfl _ _ (heap_alloc_last _ _) (by rw [PC.out.size]; kernel_rfl) (by rw [PC.out.size]; rfl) PC.out.one ?_; rw [World.setRow_alloc_new]))
  go_ret
  exact ⟨rfl, L8.out.alloc L8.out.size _⟩
end Go.Proofs.Ytmlafdehhbhbiaa
