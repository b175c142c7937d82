/- Texts: alike, or empty, or not. -/
import Derived.WalkKit
namespace Go.Proofs.Ytolmdoigcaaieaa

theorem bytes_is (t s : ByteArray) : (t.toList == s.toList) = true ↔ t = s := by
  rw [beq_iff_eq, ByteArray.toList_eq, ByteArray.toList_eq]
  exact ⟨fun h => Go.WideShapes.bytes_inj h, fun h => by rw [h]⟩
theorem bytes_not {t s : ByteArray} (h : t ≠ s) : (t.toList == s.toList) = false := by
  rw [Bool.eq_false_iff]; exact fun e => h ((bytes_is t s).1 e)
theorem ent_some {ent : ByteArray} (h : ent ≠ ⟨#[]⟩) : ent.toList.isEmpty = false ∧ ¬ ent.toList = [] := by
  have e : (⟨#[]⟩ : ByteArray).toList = [] := by rw [ByteArray.toList_eq]
  have k : ¬ ent.toList = [] := fun q => h ((bytes_is ent ⟨#[]⟩).1 (by rw [e, q]; rfl))
  exact ⟨by simpa using k, k⟩
end Go.Proofs.Ytolmdoigcaaieaa
