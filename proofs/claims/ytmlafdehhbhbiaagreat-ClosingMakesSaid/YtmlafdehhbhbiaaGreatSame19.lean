/- Balances, provisions compared: alike. -/
import Derived.Test.YtmlafdehhbhbiaaGreatM12
import Derived.Test.YtmlafdehhbhbiaaGreatM5
import Derived.Test.YtmlafdehhbhbiaaGreatBox
import Derived.Laws.StructEq
import Derived.Deep.LoopGhost
import Derived.BigQuiet
import Derived.Deep.QuietTactic
namespace Go.Proofs.YtmlafdehhbhbiaaGreat
open Go.RowKit
section
variable {w : World} {b : MBal}
set_option maxHeartbeats 4000000 in
set_option maxRecDepth 100000 in
theorem sbal_true {s1 s2 t1 t2 : Sl} (h : BalAt w b s1 s2) (h' : BalAt w b t1 t2) (hn : b.n ≤ 1000000) :
   Calls Tryz.prog 71 #[.agg (balL b s1 s2).toArray, .agg (balL b t1 t2).toArray] w fun e w' => e = .returned (.bool true) ∧ Below w.heap.size w w' := by
 obtain ⟨a1, c1⟩ := s1
 obtain ⟨a2, c2⟩ := s2
 obtain ⟨a3, c3⟩ := t1
 obtain ⟨a4, c4⟩ := t2
 have CB := Lib.hid fun w5 (k : Below w.heap.size w w5) => bsame_true a1 a3 b.n c1 c3 b.g b.g w5 (h.rows.below k) (h'.rows.below k) hn fun _ _ => rfl
 have CR := Lib.hid fun w5 (k : Below w.heap.size w w5) => same_true a2 a4 b.n c2 c4 b.r b.r w5 (h.rates.below k) (h'.rates.below k) hn fun _ _ => rfl
 obtain ⟨l1, hl1⟩ : ∃ l, balL b ⟨a1, c1⟩ ⟨a2, c2⟩ = l := ⟨_, rfl⟩
 obtain ⟨l2, hl2⟩ : ∃ l, balL b ⟨a3, c3⟩ ⟨a4, c4⟩ = l := ⟨_, rfl⟩
 have B1 := Box.new w (fun _ => 0) 0 35 l1
 have K1 := (Below.refl w.heap.size w).alloc (Nat.le_refl _) (.cells l1.toArray 35)
 have z1 : (w.alloc (.cells l1.toArray 35)).heap.size = w.heap.size + 1 := by simp
 have B2 := Box.new (w.alloc (.cells l1.toArray 35)) (fun _ => 0) 0 63 l2
 have k2 := (Below.refl _ (w.alloc (.cells l1.toArray 35))).alloc (Nat.le_refl _) (.cells l2.toArray 63)
 have B1 := B1.below k2
 have K2 := K1.trans (k2.mono K1.size)
 rw [z1] at B2
 obtain ⟨wb, hwb⟩ : ∃ wb, (w.alloc (.cells l1.toArray 35)).alloc (.cells l2.toArray 63) = wb := ⟨_, rfl⟩
 rw [hwb] at B1 B2 K2
 rw [← hl1, ← hl2] at hwb
 rw [← hl1] at B1
 rw [← hl2] at B2
 have X1 := Lib.hid B1
 have X2 := Lib.hid B2
 have KB := Lib.hid K2
 have e0 : (b.per == b.per) = true := by simp
 have e1 : (b.nx == b.nx) = true := by simp
 have e2 : (b.left == b.left) = true := by simp
 have e3 : (b.tmp == b.tmp) = true := by simp
 have e4 : (b.ls == b.ls) = true := by simp
 have e5 : (b.al == b.al) = true := by simp
 clear B1 B2 K1 k2 K2 z1 h h' hl1 hl2
 go_enter Tryz.func71, Tryz.ntmps71
 go_upto_region 1 with fail
 clear hwb
 have x0 : wb.cell? ⟨w.heap.size, 0, none⟩ = some (.int .i64 b.per) := X1.out.cell rfl
 have x1 : wb.cell? ⟨w.heap.size, 1, none⟩ = some (.slice a1 b.n c1) := X1.out.cell rfl
 have y0 : wb.cell? ⟨w.heap.size + 1, 0, none⟩ = some (.int .i64 b.per) := X2.out.cell rfl
 have y1 : wb.cell? ⟨w.heap.size + 1, 1, none⟩ = some (.slice a3 b.n c3) := X2.out.cell rfl
 go_wp2_with fail
 refine (CB.out _ KB.out).mono ?_
 rintro e w3 ⟨rfl, hb3⟩
 have Y1 := X1.out.below hb3
 have Y2 := X2.out.below hb3
 have KC := Lib.hid (KB.out.trans (hb3.mono KB.out.size))
 have u1 : w3.cell? ⟨w.heap.size, 2, none⟩ = some (.slice a2 b.n c2) := Y1.cell rfl
 have v1 : w3.cell? ⟨w.heap.size + 1, 2, none⟩ = some (.slice a4 b.n c4) := Y2.cell rfl
 have Z1 := Lib.hid Y1
 have Z2 := Lib.hid Y2
 clear Y1 Y2 hb3 x0 x1 y0 y1 X1 X2 KB CB
 go_wp2_with fail
 refine (CR.out _ KC.out).mono ?_
 rintro e w4 ⟨rfl, hb4⟩
 have Y1 := Z1.out.below hb4
 have Y2 := Z2.out.below hb4
 have KD := Lib.hid (KC.out.trans (hb4.mono KC.out.size))
 have x3 : w4.cell? ⟨w.heap.size, 3, none⟩ = some (.int .i64 b.nx) := Y1.cell rfl
 have x4 : w4.cell? ⟨w.heap.size, 4, none⟩ = some (.int .i64 b.left) := Y1.cell rfl
 have x5 : w4.cell? ⟨w.heap.size, 5, none⟩ = some (.int .i64 b.tmp) := Y1.cell rfl
 have x6 : w4.cell? ⟨w.heap.size, 6, none⟩ = some (.int .i64 b.ls) := Y1.cell rfl
 have x7 : w4.cell? ⟨w.heap.size, 7, none⟩ = some (.int .i64 b.al) := Y1.cell rfl
 have y3 : w4.cell? ⟨w.heap.size + 1, 3, none⟩ = some (.int .i64 b.nx) := Y2.cell rfl
 have y4 : w4.cell? ⟨w.heap.size + 1, 4, none⟩ = some (.int .i64 b.left) := Y2.cell rfl
 have y5 : w4.cell? ⟨w.heap.size + 1, 5, none⟩ = some (.int .i64 b.tmp) := Y2.cell rfl
 have y6 : w4.cell? ⟨w.heap.size + 1, 6, none⟩ = some (.int .i64 b.ls) := Y2.cell rfl
 have y7 : w4.cell? ⟨w.heap.size + 1, 7, none⟩ = some (.int .i64 b.al) := Y2.cell rfl
 clear Y1 Y2 hb4 u1 v1 Z1 Z2 KC CR
 go_wp2
 go_ret
 exact ⟨rfl, KD.out⟩
end
structure PvR (w : World) (op : MBal) (v : MPv) (s : Pss) : Prop where
 op : BalAt w op s.ob s.or
 cl : BalAt w v.cl s.cb s.cr
 vc : At w s.vc.a v.x.q v.x.u
 ws : AtR we 5 w s.ws.a v.q v.f
 nw : At w s.nw.a v.q v.now
theorem PvR.below {w w1 : World} {op : MBal} {v : MPv} {s : Pss} (h : PvR w op v s) (k : Below w.heap.size w w1) : PvR w1 op v s := ⟨h.op.below k, h.cl.below k, h.vc.below k, h.ws.below k, h.nw.below k⟩
theorem s_cin : (Tryz.prog.info? 31).map (·.size) = some 8 := by kernel_rfl
theorem s_rin : (Tryz.prog.info? 66).map (·.size) = some 8 := by kernel_rfl
theorem pv_inl (i : MIn) (op : MBal) (v : MPv) (s : Pss) (j : Nat) (u : Value) (h : (inL i)[j]? = some u) : (pvL i op v s)[0 + j]? = some u := by
 have hj : j < 8 := (List.getElem?_eq_some_iff.1 h).1
 rcases (show j = 0 ∨ j = 1 ∨ j = 2 ∨ j = 3 ∨ j = 4 ∨ j = 5 ∨ j = 6 ∨ j = 7 by omega) with rfl | rfl | rfl | rfl | rfl | rfl | rfl | rfl <;> exact h
theorem pv_cls (i : MIn) (op : MBal) (v : MPv) (s : Pss) (j : Nat) (u : Value) (h : (balL v.cl s.cb s.cr)[j]? = some u) : (pvL i op v s)[17 + j]? = some u := by
 have hj : j < 8 := (List.getElem?_eq_some_iff.1 h).1
 rcases (show j = 0 ∨ j = 1 ∨ j = 2 ∨ j = 3 ∨ j = 4 ∨ j = 5 ∨ j = 6 ∨ j = 7 by omega) with rfl | rfl | rfl | rfl | rfl | rfl | rfl | rfl <;> exact h
set_option maxHeartbeats 16000000 in
set_option maxRecDepth 100000 in
theorem psame {w : World} {i : MIn} {op : MBal} {v : MPv} {s s' : Pss} (h : PvR w op v s) (h' : PvR w op v s') (h1 : op.n ≤ 1000000) (h2 : v.cl.n ≤ 1000000) (h3 : v.x.q ≤ 1000000) (h4 : v.q ≤ 1000000) :
   Calls Tryz.prog 23 #[.agg (pvL i op v s).toArray, .agg (pvL i op v s').toArray] w fun e w' => e = .returned (.bool true) ∧ Below w.heap.size w w' := by
 have CO := Lib.hid fun w5 (k : Below w.heap.size w w5) => sbal_true (h.op.below k) (h'.op.below k) h1
 have CC := Lib.hid fun w5 (k : Below w.heap.size w w5) => sbal_true (h.cl.below k) (h'.cl.below k) h2
 have CT := Lib.hid fun w5 (k : Below w.heap.size w w5) => csame v.x.inc v.x.exp v.x.used v.x.new v.x.txb v.x.tax s.vc.a s'.vc.a v.x.q s.vc.c s'.vc.c v.x.u v.x.u w5 (h.vc.below k) (h'.vc.below k) h3 fun _ _ => rfl
 have CN := Lib.hid fun w5 (k : Below w.heap.size w w5) => same_true s.nw.a s'.nw.a v.q s.nw.c s'.nw.c v.now v.now w5 (h.nw.below k) (h'.nw.below k) h4 fun _ _ => rfl
 have HR := Lib.hid h.ws
 have HR' := Lib.hid h'.ws
 obtain ⟨l1, hl1⟩ : ∃ l, pvL i op v s = l := ⟨_, rfl⟩
 obtain ⟨l2, hl2⟩ : ∃ l, pvL i op v s' = l := ⟨_, rfl⟩
 have B1 := Box.new w (fun _ => 0) 0 42 l1
 have K1 := (Below.refl w.heap.size w).alloc (Nat.le_refl _) (.cells l1.toArray 42)
 have z1 : (w.alloc (.cells l1.toArray 42)).heap.size = w.heap.size + 1 := by simp
 have B2 := Box.new (w.alloc (.cells l1.toArray 42)) (fun _ => 0) 0 75 l2
 have k2 := (Below.refl _ (w.alloc (.cells l1.toArray 42))).alloc (Nat.le_refl _) (.cells l2.toArray 75)
 have B1 := B1.below k2
 have K2 := K1.trans (k2.mono K1.size)
 rw [z1] at B2
 obtain ⟨wb, hwb⟩ : ∃ wb, (w.alloc (.cells l1.toArray 42)).alloc (.cells l2.toArray 75) = wb := ⟨_, rfl⟩
 rw [hwb] at B1 B2 K2
 rw [← hl1, ← hl2] at hwb
 rw [← hl1] at B1
 rw [← hl2] at B2
 have X1 := Lib.hid B1
 have X2 := Lib.hid B2
 have KB := Lib.hid K2
 clear B1 B2 K1 k2 K2 z1 h h' hl1 hl2
 go_enter Tryz.func23, Tryz.ntmps23
 go_upto_region 1 with fail
 clear hwb
 obtain ⟨⟨a1, c1⟩, ⟨a2, c2⟩, ⟨a3, c3⟩, ⟨a4, c4⟩, ⟨a5, c5⟩, ⟨a6, c6⟩, ⟨a7, c7⟩⟩ := s
 obtain ⟨⟨b1, d1⟩, ⟨b2, d2⟩, ⟨b3, d3⟩, ⟨b4, d4⟩, ⟨b5, d5⟩, ⟨b6, d6⟩, ⟨b7, d7⟩⟩ := s'
 have r1 := Lib.hid (X1.out.sub (pv_inl i op v _))
 have r2 := Lib.hid (X2.out.sub (pv_inl i op v _))
 have x0 : wb.cell? ⟨w.heap.size, 9, none⟩ = some (.int .i64 op.per) := X1.out.cell rfl
 have x1 : wb.cell? ⟨w.heap.size, 10, none⟩ = some (.slice a1 op.n c1) := X1.out.cell rfl
 have x2 : wb.cell? ⟨w.heap.size, 11, none⟩ = some (.slice a2 op.n c2) := X1.out.cell rfl
 have x3 : wb.cell? ⟨w.heap.size, 12, none⟩ = some (.int .i64 op.nx) := X1.out.cell rfl
 have x4 : wb.cell? ⟨w.heap.size, 13, none⟩ = some (.int .i64 op.left) := X1.out.cell rfl
 have x5 : wb.cell? ⟨w.heap.size, 14, none⟩ = some (.int .i64 op.tmp) := X1.out.cell rfl
 have x6 : wb.cell? ⟨w.heap.size, 15, none⟩ = some (.int .i64 op.ls) := X1.out.cell rfl
 have x7 : wb.cell? ⟨w.heap.size, 16, none⟩ = some (.int .i64 op.al) := X1.out.cell rfl
 have y0 : wb.cell? ⟨w.heap.size + 1, 9, none⟩ = some (.int .i64 op.per) := X2.out.cell rfl
 have y1 : wb.cell? ⟨w.heap.size + 1, 10, none⟩ = some (.slice b1 op.n d1) := X2.out.cell rfl
 have y2 : wb.cell? ⟨w.heap.size + 1, 11, none⟩ = some (.slice b2 op.n d2) := X2.out.cell rfl
 have y3 : wb.cell? ⟨w.heap.size + 1, 12, none⟩ = some (.int .i64 op.nx) := X2.out.cell rfl
 have y4 : wb.cell? ⟨w.heap.size + 1, 13, none⟩ = some (.int .i64 op.left) := X2.out.cell rfl
 have y5 : wb.cell? ⟨w.heap.size + 1, 14, none⟩ = some (.int .i64 op.tmp) := X2.out.cell rfl
 have y6 : wb.cell? ⟨w.heap.size + 1, 15, none⟩ = some (.int .i64 op.ls) := X2.out.cell rfl
 have y7 : wb.cell? ⟨w.heap.size + 1, 16, none⟩ = some (.int .i64 op.al) := X2.out.cell rfl
 have p1 : wb.cell? ⟨w.heap.size, 8, none⟩ = some (.int .i64 v.r) := X1.out.cell rfl
 have p2 : wb.cell? ⟨w.heap.size + 1, 8, none⟩ = some (.int .i64 v.r) := X2.out.cell rfl
 have q1 : (i.j.toList == i.j.toList) = true := by simp
 have q2 : (v.r != v.r) = false := by simp
 go_wp2_with (first | ((with_reducible show wpList _ _ _ _ _ _); (refine wpList_load_mid rfl 31 (.tmp 6) rfl w.heap.size 0 rfl [.string i.j, .int .i64 i.p, .int .i64 i.bk, .int .i64 i.pm, .int .i64 i.jd, .int .i64 i.cp, .int .i64 i.lf, .int .i64 i.tu] _ r1.out Tryz.underlying31 rfl s_cin ?_)) | ((with_reducible show wpList _ _ _ _ _ _); (refine wpList_load_mid rfl 66 (.tmp 8) rfl (w.heap.size + 1) 0 rfl [.string i.j, .int .i64 i.p, .int .i64 i.bk, .int .i64 i.pm, .int .i64 i.jd, .int .i64 i.cp, .int .i64 i.lf, .int .i64 i.tu] _ r2.out Tryz.underlying66 rfl s_rin ?_)))
 refine (CO.out _ KB.out).mono ?_
 rintro e w3 ⟨rfl, hb3⟩
 have KC := Lib.hid (KB.out.trans (hb3.mono KB.out.size))
 have Y1 := Lib.hid (X1.out.below hb3)
 have Y2 := Lib.hid (X2.out.below hb3)
 clear x0 x1 x2 x3 x4 x5 x6 x7 y0 y1 y2 y3 y4 y5 y6 y7 r1 r2 p1 p2 hb3 X1 X2 KB CO
 have x0 : w3.cell? ⟨w.heap.size, 17, none⟩ = some (.int .i64 v.cl.per) := Y1.out.cell rfl
 have x1 : w3.cell? ⟨w.heap.size, 18, none⟩ = some (.slice a3 v.cl.n c3) := Y1.out.cell rfl
 have x2 : w3.cell? ⟨w.heap.size, 19, none⟩ = some (.slice a4 v.cl.n c4) := Y1.out.cell rfl
 have x3 : w3.cell? ⟨w.heap.size, 20, none⟩ = some (.int .i64 v.cl.nx) := Y1.out.cell rfl
 have x4 : w3.cell? ⟨w.heap.size, 21, none⟩ = some (.int .i64 v.cl.left) := Y1.out.cell rfl
 have x5 : w3.cell? ⟨w.heap.size, 22, none⟩ = some (.int .i64 v.cl.tmp) := Y1.out.cell rfl
 have x6 : w3.cell? ⟨w.heap.size, 23, none⟩ = some (.int .i64 v.cl.ls) := Y1.out.cell rfl
 have x7 : w3.cell? ⟨w.heap.size, 24, none⟩ = some (.int .i64 v.cl.al) := Y1.out.cell rfl
 have y0 : w3.cell? ⟨w.heap.size + 1, 17, none⟩ = some (.int .i64 v.cl.per) := Y2.out.cell rfl
 have y1 : w3.cell? ⟨w.heap.size + 1, 18, none⟩ = some (.slice b3 v.cl.n d3) := Y2.out.cell rfl
 have y2 : w3.cell? ⟨w.heap.size + 1, 19, none⟩ = some (.slice b4 v.cl.n d4) := Y2.out.cell rfl
 have y3 : w3.cell? ⟨w.heap.size + 1, 20, none⟩ = some (.int .i64 v.cl.nx) := Y2.out.cell rfl
 have y4 : w3.cell? ⟨w.heap.size + 1, 21, none⟩ = some (.int .i64 v.cl.left) := Y2.out.cell rfl
 have y5 : w3.cell? ⟨w.heap.size + 1, 22, none⟩ = some (.int .i64 v.cl.tmp) := Y2.out.cell rfl
 have y6 : w3.cell? ⟨w.heap.size + 1, 23, none⟩ = some (.int .i64 v.cl.ls) := Y2.out.cell rfl
 have y7 : w3.cell? ⟨w.heap.size + 1, 24, none⟩ = some (.int .i64 v.cl.al) := Y2.out.cell rfl
 go_wp2_with fail
 refine (CC.out _ KC.out).mono ?_
 rintro e w4 ⟨rfl, hb4⟩
 have KD := Lib.hid (KC.out.trans (hb4.mono KC.out.size))
 have Z1 := Lib.hid (Y1.out.below hb4)
 have Z2 := Lib.hid (Y2.out.below hb4)
 clear x0 x1 x2 x3 x4 x5 x6 x7 y0 y1 y2 y3 y4 y5 y6 y7 hb4 Y1 Y2 KC CC
 have x0 : w4.cell? ⟨w.heap.size, 25, none⟩ = some (.int .i64 v.x.inc) := Z1.out.cell rfl
 have x1 : w4.cell? ⟨w.heap.size, 26, none⟩ = some (.int .i64 v.x.exp) := Z1.out.cell rfl
 have x2 : w4.cell? ⟨w.heap.size, 27, none⟩ = some (.int .i64 v.x.used) := Z1.out.cell rfl
 have x3 : w4.cell? ⟨w.heap.size, 28, none⟩ = some (.int .i64 v.x.new) := Z1.out.cell rfl
 have x4 : w4.cell? ⟨w.heap.size, 29, none⟩ = some (.int .i64 v.x.txb) := Z1.out.cell rfl
 have x5 : w4.cell? ⟨w.heap.size, 30, none⟩ = some (.int .i64 v.x.tax) := Z1.out.cell rfl
 have x6 : w4.cell? ⟨w.heap.size, 31, none⟩ = some (.slice a5 v.x.q c5) := Z1.out.cell rfl
 have y0 : w4.cell? ⟨w.heap.size + 1, 25, none⟩ = some (.int .i64 v.x.inc) := Z2.out.cell rfl
 have y1 : w4.cell? ⟨w.heap.size + 1, 26, none⟩ = some (.int .i64 v.x.exp) := Z2.out.cell rfl
 have y2 : w4.cell? ⟨w.heap.size + 1, 27, none⟩ = some (.int .i64 v.x.used) := Z2.out.cell rfl
 have y3 : w4.cell? ⟨w.heap.size + 1, 28, none⟩ = some (.int .i64 v.x.new) := Z2.out.cell rfl
 have y4 : w4.cell? ⟨w.heap.size + 1, 29, none⟩ = some (.int .i64 v.x.txb) := Z2.out.cell rfl
 have y5 : w4.cell? ⟨w.heap.size + 1, 30, none⟩ = some (.int .i64 v.x.tax) := Z2.out.cell rfl
 have y6 : w4.cell? ⟨w.heap.size + 1, 31, none⟩ = some (.slice b5 v.x.q d5) := Z2.out.cell rfl
 go_wp2_with fail
 refine (CT.out _ KD.out).mono ?_
 rintro e w5 ⟨rfl, hb5⟩
 have KE := Lib.hid (KD.out.trans (hb5.mono KD.out.size))
 have X1 := Lib.hid (Z1.out.below hb5)
 have X2 := Lib.hid (Z2.out.below hb5)
 clear x0 x1 x2 x3 x4 x5 x6 y0 y1 y2 y3 y4 y5 y6 hb5 Z1 Z2 KD CT
 have p1 : w5.cell? ⟨w.heap.size, 32, none⟩ = some (.slice a6 v.q c6) := X1.out.cell rfl
 have p2 : w5.cell? ⟨w.heap.size + 1, 32, none⟩ = some (.slice b6 v.q d6) := X2.out.cell rfl
 have p3 : w5.cell? ⟨w.heap.size, 33, none⟩ = some (.slice a7 v.q c7) := X1.out.cell rfl
 have p4 : w5.cell? ⟨w.heap.size + 1, 33, none⟩ = some (.slice b7 v.q d7) := X2.out.cell rfl
 have q3 : ((v.q : Int) != (v.q : Int)) = false := by simp
 go_wp2_with fail
 refine (CN.out _ KE.out).mono ?_
 rintro e w6 ⟨rfl, hb6⟩
 have KF := Lib.hid (KE.out.trans (hb6.mono KE.out.size))
 have Y1 := Lib.hid (X1.out.below hb6)
 have Y2 := Lib.hid (X2.out.below hb6)
 clear p1 p2 p3 p4 hb6 X1 X2 KE CN q1 q2 q3
 have p1 : w6.cell? ⟨w.heap.size, 32, none⟩ = some (.slice a6 v.q c6) := Y1.out.cell rfl
 go_wp2
 have R1 := Lib.hid (HR.out.below KF.out)
 have R2 := Lib.hid (HR'.out.below KF.out)
 clear p1 HR HR'
 go_loopg [62] v.q (fun gh i wr => ∃ k : Nat, k ≤ v.q ∧ gh = v.q - k ∧ i = .int .i64 k ∧ Below w6.heap.size w6 wr)
 case atStart => exact ⟨0, Nat.zero_le _, rfl, rfl, Below.refl _ _⟩
 case round =>
   obtain ⟨k, hk, hgk, rfl, hbw⟩ := hrel
   have HGK := Lib.hid hgk
   have HB := Lib.hid hbw
   have Z1 := Y1.out.below hbw
   have Z2 := Y2.out.below hbw
   have p1 : wr.cell? ⟨w.heap.size, 32, none⟩ = some (.slice a6 v.q c6) := Z1.cell rfl
   have p2 : wr.cell? ⟨w.heap.size + 1, 32, none⟩ = some (.slice b6 v.q d6) := Z2.cell rfl
   have V1 := Lib.hid Z1
   have V2 := Lib.hid Z2
   clear hgk hbw Z1 Z2 Y1 Y2
   by_cases hlt : k < v.q
   · obtain ⟨b, off, rfl, hb, c0, c1, c2, c3, c4⟩ := (R1.out.below HB.out).five hlt
     obtain ⟨b', off', rfl, hb', c0', c1', c2', c3', c4'⟩ := (R2.out.below HB.out).five hlt
     have k0 : (0 : Int) ≤ (k : Int) := by omega
     have k1 : (k : Int) < (v.q : Int) := by omega
     go_wp2
     go_big_quiet (fail)
     go_wp2
     go_roundg (v.q - (k + 1))
     case measure => have := HGK.out; omega
     case rel => exact ⟨k + 1, by omega, rfl, by go_num, below_drewN HB.out _⟩
   · obtain rfl : k = v.q := by omega
     clear hlt
     have KZ := Lib.hid (KF.out.trans (HB.out.mono KF.out.size))
     have x0 : wr.cell? ⟨w.heap.size, 34, none⟩ = some (.int .i64 v.tm) := V1.out.cell rfl
     have x1 : wr.cell? ⟨w.heap.size, 35, none⟩ = some (.int .i64 v.tr) := V1.out.cell rfl
     have x2 : wr.cell? ⟨w.heap.size, 36, none⟩ = some (.int .i64 v.lm) := V1.out.cell rfl
     have x3 : wr.cell? ⟨w.heap.size, 37, none⟩ = some (.int .i64 v.lr) := V1.out.cell rfl
     have x4 : wr.cell? ⟨w.heap.size, 38, none⟩ = some (.int .i64 v.am) := V1.out.cell rfl
     have x5 : wr.cell? ⟨w.heap.size, 39, none⟩ = some (.int .i64 v.df) := V1.out.cell rfl
     have x6 : wr.cell? ⟨w.heap.size, 40, none⟩ = some (.int .i64 v.tt) := V1.out.cell rfl
     have y0 : wr.cell? ⟨w.heap.size + 1, 34, none⟩ = some (.int .i64 v.tm) := V2.out.cell rfl
     have y1 : wr.cell? ⟨w.heap.size + 1, 35, none⟩ = some (.int .i64 v.tr) := V2.out.cell rfl
     have y2 : wr.cell? ⟨w.heap.size + 1, 36, none⟩ = some (.int .i64 v.lm) := V2.out.cell rfl
     have y3 : wr.cell? ⟨w.heap.size + 1, 37, none⟩ = some (.int .i64 v.lr) := V2.out.cell rfl
     have y4 : wr.cell? ⟨w.heap.size + 1, 38, none⟩ = some (.int .i64 v.am) := V2.out.cell rfl
     have y5 : wr.cell? ⟨w.heap.size + 1, 39, none⟩ = some (.int .i64 v.df) := V2.out.cell rfl
     have y6 : wr.cell? ⟨w.heap.size + 1, 40, none⟩ = some (.int .i64 v.tt) := V2.out.cell rfl
     have z1 : (v.tm == v.tm) = true := by simp
     have z2 : (v.tr == v.tr) = true := by simp
     have z3 : (v.lm == v.lm) = true := by simp
     have z4 : (v.lr == v.lr) = true := by simp
     have z5 : (v.am == v.am) = true := by simp
     have z6 : (v.df == v.df) = true := by simp
     have z7 : (v.tt == v.tt) = true := by simp
     clear V1 V2 p1 p2 HB
     go_wp2
     go_ret
     exact ⟨rfl, KZ.out⟩
abbrev z0B : MBal := ⟨0, 0, fun _ => ⟨0, 0, 0⟩, fun _ => 0, 0, 0, 0, 0, 0⟩
abbrev z0V : MPv := ⟨0, z0B, ⟨0, 0, 0, 0, 0, 0, 0, fun _ => 0⟩, 0, fun _ => ⟨0, 0, 0, 0, 0⟩, fun _ => 0, fun _ => 0, 0, 0, 0, 0, 0, 0, 0⟩
abbrev z0I : MIn := ⟨⟨#[]⟩, 0, 0, 0, 0, 0, 0, 0⟩
abbrev z0S : Pss := ⟨.nil, .nil, .nil, .nil, .nil, .nil, .nil⟩
theorem pv0_eq : pv0L = pvL z0I z0B z0V z0S := rfl
theorem pvr_nil (w : World) : PvR w z0B z0V z0S := ⟨.nil w rfl, .nil w rfl, .inl rfl, .inl rfl, .inl rfl⟩
theorem psame0 (w : World) : Calls Tryz.prog 23 #[.agg pv0L.toArray, .agg pv0L.toArray] w fun e w' => e = .returned (.bool true) ∧ Below w.heap.size w w' := by
 rw [pv0_eq]
 exact psame (pvr_nil w) (pvr_nil w) (by decide) (by decide) (by decide) (by decide)
end Go.Proofs.YtmlafdehhbhbiaaGreat
