/- Texts of periods, as bytes; no function of the program is named here. -/
import Derived.WalkKit
import Derived.Laws.BytesArg
import Derived.WalkLawsBesides
namespace Go.Proofs.Ytolmdoigcaaieaa
/-- the text of period p -/
def ptb (p : Int) : ByteArray := strOfNums [50, 48, 48 + p / 4 / 10, 48 + p / 4 % 10, 113, 48 + (p % 4 + 1)]
theorem bytes_inj' {xs ys : List Int} (h : (strOfNums xs).toList = (strOfNums ys).toList) (hx : ∀ x ∈ xs, 0 ≤ x ∧ x ≤ 255) (hy : ∀ y ∈ ys, 0 ≤ y ∧ y ≤ 255) : xs = ys := by
  rw [ByteArray.toList_eq, ByteArray.toList_eq, strOfNums_data, strOfNums_data] at h
  have hl : xs.length = ys.length := by simpa using congrArg List.length h
  refine List.ext_getElem hl fun i h1 h2 => ?_
  have e : (xs.map fun n => UInt8.ofNat n.toNat)[i]'(by simpa using h1) = (ys.map fun n => UInt8.ofNat n.toNat)[i]'(by simpa using h2) := by
    simp only [h]
  simp only [List.getElem_map] at e
  have e := congrArg UInt8.toNat e
  obtain ⟨a1, a2⟩ := hx _ (List.getElem_mem h1)
  obtain ⟨b1, b2⟩ := hy _ (List.getElem_mem h2)
  simp at e
  omega
theorem ptb_in {p : Int} (h1 : 0 ≤ p) (h2 : p ≤ 399) : ∀ x ∈ [50, 48, 48 + p / 4 / 10, 48 + p / 4 % 10, 113, 48 + (p % 4 + 1)], 0 ≤ x ∧ x ≤ 255 := by
  intro x hx
  simp at hx
  omega
theorem ptb_size (p : Int) : (ptb p).size = 6 := by unfold ptb; rw [strOfNums_size]; rfl
theorem ptb_inj {p q : Int} (h1 : 0 ≤ p) (h2 : p ≤ 399) (h3 : 0 ≤ q) (h4 : q ≤ 399) (h : (ptb p).toList = (ptb q).toList) : p = q := by
  have e := bytes_inj' h (ptb_in h1 h2) (ptb_in h3 h4)
  simp at e
  omega
theorem ptb_eql {p q : Int} (h1 : 0 ≤ p) (h2 : p ≤ 399) (h3 : 0 ≤ q) (h4 : q ≤ 399) : ((ptb p).toList == (ptb q).toList) = decide (p = q) := by
  rw [Bool.eq_iff_iff]
  simp
  exact ⟨fun h => ptb_inj h1 h2 h3 h4 (by simpa using h), fun h => by rw [h]⟩
theorem less_cons (a b : UInt8) (x y : List UInt8) : Op.bytesLess (a :: x) (b :: y) = (decide (a < b) || (a == b && Op.bytesLess x y)) := by rw [Op.bytesLess]
theorem u8_lt {a b : Int} (h1 : 0 ≤ a) (h2 : a ≤ 255) (h3 : 0 ≤ b) (h4 : b ≤ 255) : (UInt8.ofNat a.toNat < UInt8.ofNat b.toNat) ↔ a < b := by
  rw [UInt8.lt_iff_toNat_lt]; simp; omega
theorem u8_eq {a b : Int} (h1 : 0 ≤ a) (h2 : a ≤ 255) (h3 : 0 ≤ b) (h4 : b ≤ 255) : (UInt8.ofNat a.toNat = UInt8.ofNat b.toNat) ↔ a = b := by
  constructor
  · intro h; have := congrArg UInt8.toNat h; simp at this; omega
  · intro h; rw [h]
theorem ptb_less {p q : Int} (h1 : 0 ≤ p) (h2 : p ≤ 399) (h3 : 0 ≤ q) (h4 : q ≤ 399) : Op.bytesLess (ptb p).toList (ptb q).toList = decide (p < q) := by
  rw [ByteArray.toList_eq, ByteArray.toList_eq]
  unfold ptb
  rw [strOfNums_data, strOfNums_data]
  simp only [List.map_cons, List.map_nil, less_cons]
  rw [show Op.bytesLess [] [] = false from rfl, Bool.eq_iff_iff]
  have l1 := u8_lt (a := 48 + p / 4 / 10) (b := 48 + q / 4 / 10) (by omega) (by omega) (by omega) (by omega)
  have l2 := u8_lt (a := 48 + p / 4 % 10) (b := 48 + q / 4 % 10) (by omega) (by omega) (by omega) (by omega)
  have l3 := u8_lt (a := 48 + (p % 4 + 1)) (b := 48 + (q % 4 + 1)) (by omega) (by omega) (by omega) (by omega)
  have e1 := u8_eq (a := 48 + p / 4 / 10) (b := 48 + q / 4 / 10) (by omega) (by omega) (by omega) (by omega)
  have e2 := u8_eq (a := 48 + p / 4 % 10) (b := 48 + q / 4 % 10) (by omega) (by omega) (by omega) (by omega)
  simp only [Bool.or_eq_true, Bool.and_eq_true, decide_eq_true_eq, beq_iff_eq, Bool.false_eq_true, and_false, or_false, l1, l2, l3, e1, e2]
  have n1 : ¬ (UInt8.ofNat (50 : Int).toNat < UInt8.ofNat (50 : Int).toNat) := by decide
  have n2 : ¬ (UInt8.ofNat (48 : Int).toNat < UInt8.ofNat (48 : Int).toNat) := by decide
  have n3 : ¬ (UInt8.ofNat (113 : Int).toNat < UInt8.ofNat (113 : Int).toNat) := by decide
  simp only [n1, n2, n3, false_or, true_and]
  omega
end Go.Proofs.Ytolmdoigcaaieaa
