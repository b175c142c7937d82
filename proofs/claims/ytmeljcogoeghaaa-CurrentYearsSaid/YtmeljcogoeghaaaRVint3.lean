/- The document's own losses: Expire: a contract. -/
import Derived.Test.YtmeljcogoeghaaaRVint
import Derived.WalkKit
import Derived.WalkSpells
import Derived.WalkLawsBesides
import Derived.Lib.Hide
import Derived.IntWalk
import Derived.Deep.LoopGhost
namespace Go.Proofs.Ytmeljcogoeghaaa
open Go.RowKit

theorem tot_upto {g : Nat → Int} {n k : Nat} (h : ∀ j, j < n → 0 ≤ g j) (hk : k ≤ n) : 0 ≤ tot g k ∧ tot g k ≤ tot g n := by
  refine ⟨tot_nonneg k fun j hj => h j (by omega), ?_⟩
  obtain ⟨d, rfl⟩ : ∃ d, n = k + d := ⟨n - k, by omega⟩
  clear hk
  induction d with
  | zero => exact Int.le_refl _
  | succ d ih =>
    have a := ih fun j hj => h j (by omega)
    have b := h (k + d) (by omega)
    show tot g k ≤ tot g (k + d) + g (k + d)
    omega
section
variable {w w1 : World} {O O1 : Nat → Nat} {base t t' sb n : Nat} {v : Value} {g : Nat → Bk} {S : Int → Int → Int}
/-- what goes is not more than there is -/
theorem VInv.goes (iv : VInv S n g) {u : Nat → Int} (hu : ∀ j, j < n → 0 ≤ u j ∧ u j ≤ (g j).a) {k : Nat} (hk : k ≤ n) : 0 ≤ tot u k ∧ tot u k ≤ 100000000000 := by
  have h1 := tot_upto (g := u) (fun j hj => (hu j hj).1) hk
  have h2 : tot u n ≤ btot g n := tot_le n fun j hj => (hu j hj).2
  have h3 := iv.all
  omega
set_option maxHeartbeats 8000000 in
set_option maxRecDepth 100000 in
theorem rlexp (s : LV w O base t sb v n g) (iv : VInv S n g) (fn : Fin0 base O w) (hbase : base ≤ w.heap.size) (year : Int) :
    Calls Try.prog 44 #[ptr sb, .int .i64 year] w fun e w' => e = .returned (.int .i64 (tot (goneU g year) n)) ∧ ∃ v' m h O', LV w' O' base t sb v' m h ∧ Flt n (lessG g (goneU g year)) n m h ∧ Step base O t w O' w' := by
  obtain ⟨i0, hi, hz0, hz1, hz2⟩ := info_parts vn_info
  have c0 := s.hd.c0
  have lt0 := s.hd.lt
  have g0 := s.hd.frz 0
  obtain ⟨A, cc, rfl, hc, hm, _, ha⟩ := s.at
  have hn : n ≤ 1000 := by have := iv.le; omega
  have HN := Lib.hid hn
  have HA := Lib.hid ha
  have HI := Lib.hid iv
  have HS := Lib.hid s
  have HF := Lib.hid fn
  clear s iv ha fn hn hc hm
  go_enter Try.func44, Try.ntmps44
  go_wp2
  go_loopg [5, 6, 14] n (fun gh s5 s6 i wr => ∃ (k m : Nat) (h : Nat → Bk), k ≤ n ∧ gh = n - k ∧ i = .int .i64 k ∧ s5 = .int .i64 (tot (goneU g year) k) ∧ Flt n (lessG g (goneU g year)) k m h ∧ OwnR ve 3 wr 35 w.heap.size s6 m h ∧ Below w.heap.size w wr)
  case atStart => exact ⟨0, 0, g, Nat.zero_le _, rfl, rfl, rfl, Flt.zero _ _ _, OwnR.nil _ _ _ _ _ _, Below.refl _ _⟩
  case round =>
    obtain ⟨k, m, h, hk, hgk, rfl, rfl, hf, ho, hbw⟩ := hrel
    have HGK := Lib.hid hgk
    have HW := Lib.hid hbw
    have FL := Lib.hid hf
    have HO := Lib.hid ho
    have hmk := hf.le
    have hz := hbw.size
    have hn := HN.out
    obtain ⟨T, hT⟩ : ∃ T, tot (goneU g year) k = T := ⟨_, rfl⟩
    rw [hT]
    have HT := Lib.hid hT
    clear hgk hbw hf ho hT
    by_cases hlt : k < n
    · obtain ⟨b, off, rfl, hb, k0, k1, k2⟩ := (HA.out.below HW.out).threeV hlt
      by_cases hy : (g k).c < year
      · have eu : goneU g year k = (g k).a := if_pos hy
        have FN := Lib.hid (FL.out.skip (by show (g k).a - goneU g year k = 0; omega))
        have HT2 : Hid (T + (g k).a = tot (goneU g year) (k + 1)) := Lib.hid (by rw [tot, HT.out, eu])
        have ew : IntKind.i64.wrap (T + (g k).a) = T + (g k).a := IntWalk.i64_in _ (by
          have := HI.out.goes (HI.out.gone year) (k := k + 1) (by omega)
          rw [← HT2.out] at this
          omega)
        clear eu
        go_wp2
        go_roundg (n - (k + 1))
        case measure => have := HGK.out; omega
        case rel => exact ⟨k + 1, m, h, by omega, rfl, by go_num, by rw [HT2.out], FN.out, HO.out.alloc _, HW.out.alloc hz _⟩
      · have eu : goneU g year k = 0 := if_neg hy
        have hy' : decide ((g k).c < year) = false := by simpa using hy
        have eg : lessG g (goneU g year) k = g k := by
          unfold lessG
          rw [eu]
          cases g k
          simp
        have FN := Lib.hid (FL.out.keep hlt (fun j hj => HI.out.is.1.ok j hj) (fun i j hi hj => HI.out.is.1.asc i j hi hj) (by rw [eg]; exact HI.out.is.1.nz k hlt))
        rw [eg] at FN
        have HT2 : Hid (T = tot (goneU g year) (k + 1)) := Lib.hid (by rw [tot, HT.out, eu, Int.add_zero])
        clear eu hy eg
        go_wp2_with (at_builtin; (refine wpList_push_r rfl (.tmp 26) (.tmp 28) rfl vn_type hi hz0 hz1 hz2 (by decide) rfl (by decide) ve_len ve_one w w.heap.size m (wr.heap.size + 1) _ h (g k) rfl rfl (rec_lit (wr.alloc _) (ve (g k)) 35 _ (by simp)) ((HO.out.alloc _).alloc _) (by omega) ((HW.out.alloc hz _).alloc (by simp; omega) _) (by simp; omega) _ rfl ?_; intro b2 c3 w6 ho2 hb2 hg2 hat2; have HO2 := Lib.hid ho2; have HW2 := Lib.hid hb2; clear ho2 hb2 hg2 hat2))
        go_roundg (n - (k + 1))
        case measure => have := HGK.out; omega
        case rel => exact ⟨k + 1, m + 1, _, by omega, rfl, by go_num, by rw [← HT2.out], FN.out, HO2.out, HW2.out⟩
    · obtain rfl : k = n := by omega
      clear hlt
      have e0 := cell_keep c0 HW.out
      have f0 := (HW.out.frozen (p := ⟨sb, 0, none⟩) lt0).trans g0
      obtain ⟨A8, c8, rfl, _, _, _⟩ := HO.out.form
      go_wp2
      go_ret
      obtain ⟨O', q1, q2⟩ := LV.takes HS.out HF.out hbase HW.out HO.out
      exact ⟨congrArg (fun x => Ending.returned (.int .i64 x)) HT.out.symm, _, _, _, O', q1, FL.out, q2⟩
end
end Go.Proofs.Ytmeljcogoeghaaa
