/- The document's own provision: made, or why not. -/
import Derived.Test.YtmlafdehhbhbiaaGreatRMk2
import Derived.Test.YtmlafdehhbhbiaaGreatSame19
namespace Go.Proofs.YtmlafdehhbhbiaaGreat
open Go.RowKit
section
variable {w wt wr wl : World} {O Ob Ol : Nat → Nat} {t tk tl tb nr lb rg m nl : Nat} {R : Nat → Rt} {i : MIn} {op : MBal} {sb sr : Sl} {g gl : Nat → Bk} {S0 S SL SL' : Int → Int → Int} {v : MPv}
set_option maxHeartbeats 4000000 in
set_option maxRecDepth 100000 in
theorem rmk_ok (ht : NowT 116 wt w O t tb nr R) (hr : NowB wr w Ob tk rg S) (hl : NowL wl w Ol tl lb SL) (b : BInv S m g) (vl : VInv SL nl gl) (ok : op.Ok S0) (ho : BalAt w op sb sr) (H : MkAt R nr i op S0 S m g SL nl gl v SL') (F : Fit i op v) :
   Calls Tryz.prog 22 #[ptr tb, .agg (inL i).toArray, .agg (balL op sb sr).toArray, ptr lb, ptr rg] w fun e' w' => ∃ lb' O' ss, e' = .returned (.tuple #[.agg (pvL i op v ss).toArray, ptr lb', .int .i64 0]) ∧ NowL w w' O' 1 lb' SL' ∧ RPv O' w.heap.size w' op v ss ∧ Below w.heap.size w w' := by
 obtain ⟨vt, s⟩ := ht.st
 obtain ⟨vv, n', g', sB, iv'⟩ := hr.st
 obtain ⟨rfl, e⟩ := iv'.is.uniq b.is
 have c0 := sB.hd.c0
 obtain ⟨A, c, rfl, h1, h2, hn, h3⟩ := sB.at
 refine (rmk_main (bt := true) (E := 0) s hl c0 sB.hd.lt (h3.ext e) ⟨h1, h2⟩ hn b vl ok ho H.arg H.rate H.nx H.rs (.inr ⟨rfl, H, rfl, rfl, fun _ _ => rfl⟩)).mono ?_
 rintro e' w' (⟨q, _⟩ | ⟨_, q, _⟩ | ⟨_, _, q⟩)
 · cases q
 · exact absurd F q
 · exact q
set_option maxHeartbeats 4000000 in
set_option maxRecDepth 100000 in
theorem rmk_no {e : Int} (ht : NowT 116 wt w O t tb nr R) (hr : NowB wr w Ob tk rg S) (hl : NowL wl w Ol tl lb SL) (b : BInv S m g) (vl : VInv SL nl gl) (ok : op.Ok S0) (ho : BalAt w op sb sr) (H : MkNo R nr i op S0 S m g SL nl gl e) :
   Calls Tryz.prog 22 #[ptr tb, .agg (inL i).toArray, .agg (balL op sb sr).toArray, ptr lb, ptr rg] w fun e' w' => e' = .returned (.tuple #[.agg pv0L.toArray, .pointer none, .int .i64 e]) ∧ Below w.heap.size w w' := by
 obtain ⟨vt, s⟩ := ht.st
 obtain ⟨vv, n', g', sB, iv'⟩ := hr.st
 obtain ⟨rfl, e9⟩ := iv'.is.uniq b.is
 have c0 := sB.hd.c0
 obtain ⟨A, c, rfl, h1, h2, hn, h3⟩ := sB.at
 cases H with
 | arg h => exact rmk_arg h
 | rate h k => exact rmk_rate s h k
 | tax h k kx kr ht he =>
   refine (rmk_main (bt := false) (v := z0V) (SL' := SL) s hl c0 sB.hd.lt (h3.ext e9) ⟨h1, h2⟩ hn b vl ok ho h k kx kr (.inl ⟨rfl, ht, he⟩)).mono ?_
   rintro e' w' (⟨_, q⟩ | ⟨q, _⟩ | ⟨q, _⟩)
   · exact q
   · cases q
   · cases q
 | over h hf =>
   refine (rmk_main (bt := true) (E := 0) s hl c0 sB.hd.lt (h3.ext e9) ⟨h1, h2⟩ hn b vl ok ho h.arg h.rate h.nx h.rs (.inr ⟨rfl, h, rfl, rfl, fun _ _ => rfl⟩)).mono ?_
   rintro e' w' (⟨q, _⟩ | ⟨_, _, q⟩ | ⟨_, q, _⟩)
   · cases q
   · exact q
   · exact absurd q hf
end
end Go.Proofs.YtmlafdehhbhbiaaGreat
