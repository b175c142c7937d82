/- Package closing, as the laws meet it: a provision made, or why not. -/
import Derived.Test.YtmlafdehhbhbiaaCl8
import Derived.Test.YtmlafdehhbhbiaaLaw09a
namespace Go.Proofs.Ytmlafdehhbhbiaa
open Go.RowKit
theorem pnone_x (w : World) : Calls Try.prog 9 #[] w fun e w' => e = .returned (.agg #[.int .i64 (-1), .slice none 0 0, .slice none 0 0, .int .i64 0, .int .i64 0, .int .i64 0, .int .i64 0, .int .i64 0]) ∧ Below w.heap.size w w' := pnone_any w
def cz0V : MPv := ⟨0, bal0, tx0, 0, fun _ => ⟨0, 0, 0, 0, 0⟩, fun _ => 0, fun _ => 0, 0, 0, 0, 0, 0, 0, 0⟩
section
variable {w0 w1 w2 w : World} {O O1 O2 : Nat → Nat} {t t1 t2 tb lb rb nr m nl : Nat} {R : Nat → Rt} {S0 S SL SL' : Int → Int → Int} {g gl : Nat → Bk} {i : MIn} {op : MBal} {sb sr : Sl} {v : MPv}
set_option maxRecDepth 100000 in
theorem pmk_ok2 (ht : NowT 57 w0 w O t tb nr R) (hl : NowV w1 w O1 t1 lb SL) (hr : NowP w2 w O2 t2 rb S) (b : BInv S m g) (vl : VInv SL nl gl) (ok : op.Ok S0) (ho : BalAt w op sb sr) (H : MkAt R nr i op S0 S m g SL nl gl v SL') (F : Fit i op v) :
    Calls Try.prog 8 #[ptr tb, .agg (inL i).toArray, .agg (balL op sb sr).toArray, ptr lb, ptr rb] w fun e w' => ∃ lb' O' ss, e = .returned (.tuple #[.agg (pvL i op v ss).toArray, ptr lb', .int .i64 0]) ∧
      NowV w w' O' 1 lb' SL' ∧ PvAt O' w.heap.size w' op v ss ∧ ((ss.ob = sb ∧ ss.or = sr) ∨ BalO O' w.heap.size w' op ss.ob ss.or) ∧ Below w.heap.size w w' := by
  obtain ⟨vt, s⟩ := ht.st
  refine (pmk_main (bt := true) (E := 0) s hl hr b vl ok ho H.arg H.rate H.nx H.rs (.inr ⟨rfl, H, rfl, rfl, fun _ _ => rfl⟩)).mono ?_
  rintro e' w' (⟨q, _⟩ | ⟨_, q, _⟩ | ⟨_, _, lb', O', ss, h1, h2, h3, h4, h5⟩)
  · cases q
  · exact absurd F q
  · exact ⟨lb', O', ss, h1, h2, h3, .inr h4, h5⟩
set_option maxRecDepth 100000 in
theorem pmk_ok (ht : NowT 57 w0 w O t tb nr R) (hl : NowV w1 w O1 t1 lb SL) (hr : NowP w2 w O2 t2 rb S) (b : BInv S m g) (vl : VInv SL nl gl) (ok : op.Ok S0) (ho : BalAt w op sb sr) (H : MkAt R nr i op S0 S m g SL nl gl v SL') (F : Fit i op v) :
    Calls Try.prog 8 #[ptr tb, .agg (inL i).toArray, .agg (balL op sb sr).toArray, ptr lb, ptr rb] w fun e w' => ∃ lb' O' ss, e = .returned (.tuple #[.agg (pvL i op v ss).toArray, ptr lb', .int .i64 0]) ∧
      NowV w w' O' 1 lb' SL' ∧ PvAt O' w.heap.size w' op v ss ∧ Below w.heap.size w w' := by
  refine (pmk_ok2 ht hl hr b vl ok ho H F).mono ?_
  rintro e' w' ⟨lb', O', ss, h1, h2, h3, _, h5⟩
  exact ⟨lb', O', ss, h1, h2, h3, h5⟩
set_option maxRecDepth 100000 in
theorem pmk_no (ht : NowT 57 w0 w O t tb nr R) (hl : NowV w1 w O1 t1 lb SL) (hr : NowP w2 w O2 t2 rb S) (b : BInv S m g) (vl : VInv SL nl gl) (ok : op.Ok S0) (ho : BalAt w op sb sr) {e : Int} (H : MkNo R nr i op S0 S m g SL nl gl e) :
    Calls Try.prog 8 #[ptr tb, .agg (inL i).toArray, .agg (balL op sb sr).toArray, ptr lb, ptr rb] w fun e' w' => e' = .returned (.tuple #[.agg pv0L.toArray, .pointer none, .int .i64 e]) ∧ Below w.heap.size w w' := by
  obtain ⟨vt, s⟩ := ht.st
  cases H with
  | arg h => exact pmk_arg h
  | rate h k => exact pmk_rate s h k
  | tax h k kx kr ht he =>
    refine (pmk_main (bt := false) (v := cz0V) (SL' := SL) s hl hr b vl ok ho h k kx kr (.inl ⟨rfl, ht, he⟩)).mono ?_
    rintro e' w' (⟨_, q⟩ | ⟨q, _⟩ | ⟨q, _⟩)
    · exact q
    · cases q
    · cases q
  | over h hf =>
    refine (pmk_main (bt := true) (E := 0) s hl hr b vl ok ho h.arg h.rate h.nx h.rs (.inr ⟨rfl, h, rfl, rfl, fun _ _ => rfl⟩)).mono ?_
    rintro e' w' (⟨q, _⟩ | ⟨_, _, q⟩ | ⟨_, q, _⟩)
    · cases q
    · exact q
    · exact absurd q hf
end
end Go.Proofs.Ytmlafdehhbhbiaa
