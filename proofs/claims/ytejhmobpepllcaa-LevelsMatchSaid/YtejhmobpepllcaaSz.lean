/-
  Sizes of fitted pages; three cells of a block that are written anew.
-/
import Derived.Test.YtejhmobpepllcaaErrb
namespace Go.Proofs.Ytejhmobpepllcaa
open Go.RowKit
set_option linter.unusedSimpArgs false
set_option linter.unusedVariables false

theorem small_size {W H : Nat} (hW : 1 ≤ W ∧ W ≤ 32) (hH : 1 ≤ H ∧ H ≤ 32) : sizeErr W H = 0 ∧ pageErr W H (W * H) = 0 ∧ 1 ≤ W * H ∧ W * H ≤ 1024 := by
  have h1 := Nat.mul_le_mul hW.2 hH.2
  have h2 := Nat.mul_pos hW.1 hH.1
  have he : sizeErr W H = 0 := by
    unfold sizeErr
    rw [if_neg (by omega), if_neg (by rw [← Int.natCast_mul]; omega)]
  exact ⟨he, by unfold pageErr; rw [if_pos he, if_pos (by simp [Int.natCast_mul])], h2, h1⟩

theorem small_size16 {W H : Nat} (hW : 1 ≤ W ∧ W ≤ 16) (hH : 1 ≤ H ∧ H ≤ 16) : sizeErr W H = 0 ∧ pageErr W H (W * H) = 0 ∧ 1 ≤ W * H ∧ W * H ≤ 256 := by
  have h := small_size (W := W) (H := H) ⟨hW.1, by omega⟩ ⟨hH.1, by omega⟩
  have h1 := Nat.mul_le_mul hW.2 hH.2
  exact ⟨h.1, h.2.1, h.2.2.1, h1⟩

/-- Three cells of a block that are written anew. -/
theorem far3_same {w : World} {b : Nat} {x y z x' y' z' : Value} {t : TypeId} (h : w.heap[b]? = some (.cells #[x, y, z] t (0, 0))) :
    (((w.setCell ⟨b, 0, none⟩ x').setCell ⟨b, 1, none⟩ y').setCell ⟨b, 2, none⟩ z').heap[b]? = some (.cells #[x', y', z'] t (0, 0)) := by
  have h1 := heap_setCell_same w b 0 #[x, y, z] t x' h
  have h2 := heap_setCell_same _ b 1 _ t y' h1
  have h3 := heap_setCell_same _ b 2 _ t z' h2
  simpa using h3

end Go.Proofs.Ytejhmobpepllcaa
