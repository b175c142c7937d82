/- Package vintage: rows of which nothing is left are struck out (slices.IndexFunc, slices.DeleteFunc walked): a contract for each. -/
import Derived.Test.YtmeljcogoeghaaaRows
import Derived.Test.YtmeljcogoeghaaaVnCmp
import Derived.Test.YtmeljcogoeghaaaVnRow
import Derived.WalkKit
import Derived.WalkSpells
import Derived.WalkLawsBesides
import Derived.Lib.Hide
import Derived.IntWalk
import Derived.Deep.LoopGhost
import Derived.Deep.DeepCutAuto
namespace Go.Proofs.Ytmeljcogoeghaaa
open Go.RowKit

theorem vused_any (x : Bk) (w : World) : Calls Try.prog 54 #[va x] w fun e w' => e = .returned (.bool (x.a == 0)) ∧ Below w.heap.size w w' := by
  obtain ⟨c, y, a⟩ := x
  simp only [va] at *
  go_enter Try.func54, Try.ntmps54
  go_wp2
  go_ret
  exact ⟨rfl, (Below.refl _ _).alloc (Nat.le_refl _) _⟩
theorem vindex (A : Option Addr) (n c : Nat) (g : Nat → Bk) (w : World) (hr : AtR ve 3 w A n g) (hn : n ≤ 1000000) (hnc : n ≤ c) :
    Calls Try.prog 65 #[.slice A n c, .func (.func 54) #[] #[]] w fun e w' => ∃ p : Nat, p ≤ n ∧ (∀ j, j < p → (g j).a ≠ 0) ∧ ((p = n ∧ e = .returned (.int .i64 (-1))) ∨ (p < n ∧ (g p).a = 0 ∧ e = .returned (.int .i64 p))) ∧ Below w.heap.size w w' := by
  have HR := Lib.hid hr
  clear hr
  go_enter Try.func65, Try.ntmps65
  go_wp2
  go_loopg [5, 8] n (fun gh _ i wr => ∃ k : Nat, k ≤ n ∧ gh = n - k ∧ i = .int .i64 k ∧ (∀ j, j < k → (g j).a ≠ 0) ∧ Below w.heap.size w wr)
  case atStart => exact ⟨0, Nat.zero_le _, rfl, rfl, fun j hj => absurd hj (Nat.not_lt_zero _), Below.refl _ _⟩
  case round =>
    obtain ⟨k, hk, hgk, rfl, h0, hbw⟩ := hrel
    have HGK := Lib.hid hgk
    have HB := Lib.hid hbw
    have H0 := Lib.hid h0
    clear hgk hbw h0
    by_cases hlt : k < n
    · obtain ⟨b, off, rfl, hb, c0, c1, c2⟩ := (HR.out.below HB.out).threeV hlt
      have CL := Lib.hid (vused_any (g k) wr)
      by_cases hq : (g k).a = 0
      · have HQ := Lib.hid hq
        rw [show ((g k).a == 0) = true by simpa using hq] at CL
        clear hq
        go_wp2_with (go_at_call 54; (refine (CL.out).mono ?_); rintro e w' ⟨rfl, hb'⟩; have HB2 := Lib.hid (HB.out.trans (hb'.mono HB.out.size)); clear hb')
        go_ret
        exact ⟨k, by omega, H0.out, .inr ⟨hlt, HQ.out, rfl⟩, HB2.out⟩
      · have HQ := Lib.hid hq
        rw [show ((g k).a == 0) = false by simpa using hq] at CL
        clear hq
        go_wp2_with (go_at_call 54; (refine (CL.out).mono ?_); rintro e w' ⟨rfl, hb'⟩; have HB2 := Lib.hid (HB.out.trans (hb'.mono HB.out.size)); clear hb')
        go_roundg (n - (k + 1))
        case measure => have := HGK.out; omega
        case rel => exact ⟨k + 1, by omega, rfl, by go_num, fun j hj => by
            by_cases e : j = k
            · rw [e]; exact HQ.out
            · exact H0.out j (by omega), HB2.out⟩
    · obtain rfl : k = n := by omega
      clear hlt
      go_wp2
      go_ret
      exact ⟨k, Nat.le_refl _, H0.out, .inl ⟨rfl, rfl⟩, HB.out⟩
section
variable {w : World} {base n c k : Nat} {A : Option Addr} {g G h : Nat → Bk} {x : Bk}
theorem flt_all (hok : ∀ j, j < n → VOk (G j).c (G j).y) (hasc : ∀ i j, i < j → j < n → Bl (G i).c (G i).y (G j).c (G j).y) (hk : k ≤ n) (hz : ∀ j, j < k → (G j).a ≠ 0) : Flt n G k k G :=
  ⟨⟨fun j hj => hok j (by omega), hz, fun i j hi hj => hasc i j hi (by omega)⟩, fun _ _ => rfl, rfl, fun i j hi hj hn => hasc i j (by omega) hn, Nat.le_refl _⟩
/-- a whole row is written -/
theorem OwnR.set3 {b i : Nat} (o : OwnR ve 3 w 35 base (.slice (Option.some ⟨b, 0, none⟩) n c) n g) (hi : i < n) (x : Bk) :
    OwnR ve 3 (((w.setCell ⟨b, i * 3, none⟩ (.int .i64 x.y)).setCell ⟨b, i * 3 + 1, none⟩ (.int .i64 x.c)).setCell ⟨b, i * 3 + 2, none⟩ (.int .i64 x.a)) 35 base (.slice (Option.some ⟨b, 0, none⟩) n c) n (fun j => if j = i then x else g j) := by
  have h1 := o.setc ve_len i 0 ⟨(g i).c, x.y, (g i).a⟩ (.int .i64 x.y) hi (by decide) (fun d hd => by
    match d, hd with
    | 0, h => exact absurd rfl h
    | 1, _ => rfl
    | 2, _ => rfl
    | d + 3, _ => rfl) rfl
  rw [Nat.add_zero] at h1
  have h2 := h1.setc ve_len i 1 ⟨x.c, x.y, (g i).a⟩ (.int .i64 x.c) hi (by decide) (fun d hd => by
    rw [if_pos rfl]
    match d, hd with
    | 0, _ => rfl
    | 1, h => exact absurd rfl h
    | 2, _ => rfl
    | d + 3, _ => rfl) rfl
  have h3 := h2.setc ve_len i 2 x (.int .i64 x.a) hi (by decide) (fun d hd => by
    rw [if_pos rfl]
    match d, hd with
    | 0, _ => rfl
    | 1, _ => rfl
    | 2, h => exact absurd rfl h
    | d + 3, _ => rfl) rfl
  refine h3.ext fun j hj => ?_
  by_cases e : j = i
  · rw [if_pos e, if_pos e]
  · rw [if_neg e, if_neg e, if_neg e, if_neg e]
theorem grown_set3 {w' : World} {b i : Nat} {u v z : Value} (k : w.grownBy w' (some b)) : w.grownBy (((w'.setCell ⟨b, i * 3, none⟩ u).setCell ⟨b, i * 3 + 1, none⟩ v).setCell ⟨b, i * 3 + 2, none⟩ z) (some b) := by
  have s : ∀ (w : World) (o : Nat) (u : Value), w.grownBy (w.setCell ⟨b, o, none⟩ u) (some b) := fun w o u =>
    have z := (Below.refl 0 w).setCell (p := ⟨b, o, none⟩) (Nat.zero_le _) u
    ⟨z.os, z.tape, z.output, z.size, fun k _ hk => Below.heap_setCell _ _ _ _ fun e => hk (by rw [e])⟩
  exact ((k.trans (s _ _ _)).trans (s _ _ _)).trans (s _ _ _)
theorem grown_below {w1 w2 : World} {r : Option Nat} (k : w.grownBy w1 r) (hb : Below w1.heap.size w1 w2) : w.grownBy w2 r :=
  k.trans ⟨hb.os, hb.tape, hb.output, hb.size, fun i hi _ => hb.block i hi⟩
set_option maxHeartbeats 4000000 in
set_option maxRecDepth 100000 in
/-- those of which nothing is left are struck out -/
theorem vdelfn (o : OwnR ve 3 w 35 base (.slice A n c) n G) (hn : n ≤ 1000) (hok : ∀ j, j < n → VOk (G j).c (G j).y) (hasc : ∀ i j, i < j → j < n → Bl (G i).c (G i).y (G j).c (G j).y) :
    Calls Try.prog 53 #[.slice A n c, .func (.func 54) #[] #[]] w fun e w' => ∃ m h, e = .returned (.slice A m c) ∧ OwnR ve 3 w' 35 base (.slice A m c) m h ∧ Flt n G n m h ∧ w.grownBy w' (Value.slice A n c).ownBlock := by
  obtain ⟨A', c', e', hc1, hc2, _, hat⟩ := o.at ve_len
  injection e' with e1 _ e3
  subst e1 e3
  have CI := Lib.hid (vindex A n c G w hat (by omega) hc1)
  have HO := Lib.hid o
  have HOK := Lib.hid hok
  have HASC := Lib.hid hasc
  clear o hat hok hasc
  go_enter Try.func53, Try.ntmps53
  go_wp2_with fail
  refine (CI.out).mono ?_
  rintro e w1 ⟨p, hp, hnz, hr, hb⟩
  have HB := Lib.hid hb
  have HNZ := Lib.hid hnz
  clear hb hnz CI
  rcases hr with ⟨rfl, rfl⟩ | ⟨hpn, hpz, rfl⟩
  · go_wp2
    go_ret
    exact ⟨p, G, rfl, HO.out.below HB.out, flt_all HOK.out HASC.out (Nat.le_refl _) HNZ.out, grown_below (World.grownBy.refl _ _) HB.out⟩
  obtain ⟨b, c', e', _, _⟩ := own_some HO.out (by omega)
  injection e' with e1 _ e3
  subst e1 e3
  have ep : (((p : Int)) == -1) = false := by first | (simp; done) | (simp; omega)
  have HPZ := Lib.hid hpz
  have HN := Lib.hid hn
  have HC1 := Lib.hid hc1
  have HC2 := Lib.hid hc2
  clear hpz hn hc1 hc2
  go_wp2
  go_loopg [5, 6] (n - (p + 1)) (fun gh s5 s6 wr => ∃ (k m : Nat) (f h : Nat → Bk), k ≤ n ∧ m < k ∧ gh = n - k ∧ s6 = .int .i64 k ∧ s5 = .int .i64 m ∧ Flt n G k m h ∧ (∀ j, j < m → f j = h j) ∧ (∀ j, k ≤ j → j < n → f j = G j) ∧ OwnR ve 3 wr 35 base (.slice (some ⟨b, 0, none⟩) n c) n f ∧ w.grownBy wr (some b))
  case atStart =>
    have hn := HN.out
    exact ⟨p + 1, p, G, G, by omega, by omega, rfl, (by refine congrArg _ ?_; unfold wrap64; omega), rfl, (flt_all HOK.out HASC.out (by omega) HNZ.out).skip HPZ.out, fun _ _ => rfl, fun _ _ _ => rfl, HO.out.below HB.out, grown_below (World.grownBy.refl _ _) HB.out⟩
  case round =>
    obtain ⟨k, m, f, h, hk, hmk, hgk, rfl, rfl, hf, hf1, hf2, ho, hgw⟩ := hrel
    have HGK := Lib.hid hgk
    have HF := Lib.hid hf
    have HF1 := Lib.hid hf1
    have HF2 := Lib.hid hf2
    have HOW := Lib.hid ho
    have HGW := Lib.hid hgw
    clear hgk hf hf1 hf2 ho hgw
    by_cases hlt : k < n
    · have hmn : m < n := by omega
      obtain ⟨_, _, e, _, _, hbb, hbs, hcell, hfz⟩ := HOW.out.some ve_len (by omega)
      injection e with e1 _ e3
      injection e1 with e1
      injection e1 with e1
      subst e1 e3
      have k0 := hcell k hlt 0 _ rfl
      have k1 := hcell k hlt 1 _ rfl
      have k2 := hcell k hlt 2 _ rfl
      rw [HF2.out k (Nat.le_refl _) hlt] at k0 k1 k2
      rw [Nat.add_zero] at k0
      have m0 := hcell m hmn 0 _ rfl
      have m1 := hcell m hmn 1 _ rfl
      have m2 := hcell m hmn 2 _ rfl
      rw [Nat.add_zero] at m0
      have z0 := hfz (m * 3)
      have z1 := hfz (m * 3 + 1)
      have z2 := hfz (m * 3 + 2)
      have i1 : (0 : Int) ≤ (k : Int) := by omega
      have i2 : (k : Int) < (n : Int) := by omega
      have i3 : (0 : Int) ≤ (m : Int) := by omega
      have i4 : (m : Int) < (n : Int) := by omega
      have CL := Lib.hid fun w => vused_any (G k) w
      clear hcell hfz
      have hn := HN.out
      by_cases hq : (G k).a = 0
      · have HQ := Lib.hid hq
        rw [show ((G k).a == 0) = true by simpa using hq] at CL
        clear hq
        go_wp2_with (go_at_call 54; (refine (CL.out _).mono ?_); rintro e w' ⟨rfl, hb'⟩; have HO2 := Lib.hid ((HOW.out.alloc _).below hb'); have HG2 := Lib.hid (grown_below (HGW.out.trans (World.grownBy_alloc _ _ _)) hb'); clear hb')
        go_roundg (n - (k + 1))
        case measure => have := HGK.out; omega
        case rel => exact ⟨k + 1, m, f, h, by omega, by omega, rfl, by go_num, rfl, HF.out.skip HQ.out, HF1.out, fun j h1 h2 => HF2.out j (by omega) h2, HO2.out, HG2.out⟩
      · have HQ := Lib.hid hq
        rw [show ((G k).a == 0) = false by simpa using hq] at CL
        clear hq
        have bm : b < wr.heap.size := hbs
        go_wp2_with (go_at_call 54; (refine (CL.out _).mono ?_); rintro e w' ⟨rfl, hb'⟩; have v0 := cell_keep (rec_lit wr (ve (G k)) 35 wr.heap.size rfl 0 _ rfl) hb'; have v1 := cell_keep (rec_lit wr (ve (G k)) 35 wr.heap.size rfl 1 _ rfl) hb'; have v2 := cell_keep (rec_lit wr (ve (G k)) 35 wr.heap.size rfl 2 _ rfl) hb'; have HO2 := Lib.hid ((HOW.out.alloc _).below hb'); have HG2 := Lib.hid (grown_below (HGW.out.trans (World.grownBy_alloc _ _ _)) hb'); clear hb'; obtain ⟨_, _, e, _, _, _, hbs2, hcell, hfz⟩ := HO2.out.some ve_len (by omega); injection e with e1 _ e3; injection e1 with e1; injection e1 with e1; subst e1 e3; have n0 := hcell m hmn 0 _ rfl; have n1 := hcell m hmn 1 _ rfl; have n2 := hcell m hmn 2 _ rfl; rw [Nat.add_zero] at n0; have y0 := hfz (m * 3); have y1 := hfz (m * 3 + 1); have y2 := hfz (m * 3 + 2); clear hcell hfz)
        go_roundg (n - (k + 1))
        case measure => have := HGK.out; omega
        case rel => exact ⟨k + 1, m + 1, _, pushB h m (G k), by omega, by omega, rfl, by go_num, by go_num, HF.out.keep hlt HOK.out HASC.out HQ.out, fun j hj => (by
            by_cases e : j = m
            · rw [e, if_pos rfl, pushB_at]
            · rw [if_neg e, pushB_ne h _ e]; exact HF1.out j (by omega)), fun j h1 h2 => (by rw [if_neg (by omega)]; exact HF2.out j (by omega) h2), HO2.out.set3 hmn (G k), grown_set3 HG2.out⟩
    · obtain rfl : k = n := by omega
      have hmn : m < k := hmk
      obtain ⟨T, hg, hbb, hnc, hcm, hl⟩ := HOW.out.whole
      have hlr := rl_length ve_len f k
      have hfs : rl ve f m = rl ve h m := rl_ext HF1.out
      obtain ⟨zs, hzs⟩ : ∃ zs, (Builtin.zeroCells (Value.agg #[.int .i64 0, .int .i64 0, .int .i64 0]).cells (k - m)).toList = zs := ⟨_, rfl⟩
      have hzl : zs.length = (k - m) * 3 := by rw [← hzs]; exact vn_zs_len _
      have hzz : ∀ u ∈ zs, u.oneCell' = true := by rw [← hzs]; exact vn_zs_one _
      have hfit : m * 3 + zs.length ≤ (rl ve f k ++ T).length := by rw [hl, hzl]; omega
      have hlast : splice (rl ve f k ++ T) (m * 3) zs = rl ve h m ++ (zs ++ (rl ve f k ++ T).drop (m * 3 + zs.length)) := by
        unfold splice
        rw [← hfs, List.take_append_of_le_length (by rw [hlr]; omega), rl_take ve_len f (by omega)]
      have hl2 := length_splice _ _ _ hfit
      rw [hl, hlast] at hl2
      have HG := Lib.hid hg
      have HFIT := Lib.hid hfit
      have HZZ := Lib.hid hzz
      have HZS := Lib.hid hzs
      have HLAST := Lib.hid hlast
      have HL2 := Lib.hid hl2
      have HMC : Hid (m ≤ c) := Lib.hid (by omega)
      have HCM := Lib.hid hcm
      have HKM : Hid (0 < k - m) := Lib.hid (by omega)
      have i1 : (0 : Int) ≤ (m : Int) := by omega
      have i2 : (m : Int) ≤ (k : Int) := by omega
      have i3 : ¬ (c = m) := by omega
      have i4 : m ≤ c := by omega
      have i5 : (m : Int) ≤ (c : Int) := by omega
      clear hlt hg hlr hfs hzs hzl hzz hfit hlast hl2 hl hcm hnc hmk
      go_wp2_with ((with_reducible show wpList _ _ _ _ _ _); (refine wpList_clear_o rfl (.tmp 38) 32 rfl vn_type (fun w => vn_zero w) _ b (m * 3) (k - m) _ HKM.out HZS.out rfl _ _ HG.out HFIT.out HZZ.out w HGW.out ?_; intro w5 hg5 hb5))
      go_ret
      have h5 := hg5.out
      rw [HLAST.out] at h5
      exact ⟨m, h, rfl, OwnR.of_block ve_len h5 hbb HMC.out HCM.out HL2.out, HF.out, hb5.out⟩
end
end Go.Proofs.Ytmeljcogoeghaaa
