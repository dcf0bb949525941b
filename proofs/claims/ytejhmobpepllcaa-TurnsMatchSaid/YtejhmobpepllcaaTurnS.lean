/-
  The page that is turned once more, round by round, in its box.
-/
import Derived.Test.YtejhmobpepllcaaTurnV
import Derived.Test.YtejhmobpepllcaaTurnG
namespace Go.Proofs.Ytejhmobpepllcaa
open Go.RowKit
set_option linter.unusedSimpArgs false
set_option linter.unusedVariables false

theorem turnW_next (W H k : Nat) (hk : k ≤ 2) : turnW W H (k + 1) = turnW H W k := by
  have hk' : k = 0 ∨ k = 1 ∨ k = 2 := by omega
  rcases hk' with rfl | rfl | rfl <;> simp [turnW]

/-- A page turned k times, in the box tb. -/
def TurnedOk (W H : Nat) (z : Nat → Bool) (k tb : Nat) (w : World) : Prop :=
  ∃ g o c, w.heap[tb]? = some (.cells #[.int .i64 (turnW W H k), .int .i64 (turnW H W k), .slice (some ⟨g, o, none⟩) (turnW W H k * turnW H W k) c] 24 (0, 0)) ∧ g ≠ tb ∧
    ∀ m, m < turnW W H k * turnW H W k → w.cell? ⟨g, o + m, none⟩ = some (.bool (turnAt W H k z (m % turnW W H k) (m / turnW W H k)))

theorem TurnedOk.later {W H : Nat} {z : Nat → Bool} {k tb : Nat} {w w' : World} (h : TurnedOk W H z k tb w) (hb : Below w.heap.size w w') : TurnedOk W H z k tb w' := by
  obtain ⟨g, o, c, h1, h2, h3⟩ := h
  exact ⟨g, o, c, below_block hb h1, h2, fun m hm => cell_later hb (h3 m hm)⟩

theorem TurnedOk.next {W H k tb g' c' : Nat} {z : Nat → Bool} {wo : World} {x0 y0 s0 : Value} (hk : k ≤ 2) (hW : 1 ≤ W) (hH : 1 ≤ H) (hblk : wo.heap[tb]? = some (.cells #[x0, y0, s0] 24 (0, 0))) (hg : tb < g')
    (hz : ∀ j, j < turnW H W k * turnW W H k → wo.cell? ⟨g', 0 + j, none⟩ = some (.bool ((fun m => turnAt W H k z (m % turnW W H k) (m / turnW W H k)) ((turnW H W k - 1 - j % turnW H W k) * turnW W H k + j / turnW H W k)))) :
    TurnedOk W H z (k + 1) tb (((wo.setCell ⟨tb, 0, none⟩ (.int .i64 (turnW H W k))).setCell ⟨tb, 1, none⟩ (.int .i64 (turnW W H k))).setCell ⟨tb, 2, none⟩ (.slice (some ⟨g', 0, none⟩) (turnW H W k * turnW W H k) c')) := by
  have hm : turnW H W k * turnW W H k = W * H := by rw [turnW_mul, Nat.mul_comm]
  refine ⟨g', 0, c', ?_, by omega, fun m hm' => ?_⟩
  · rw [turnW_next W H k hk, turnW_next H W k hk]
    exact heap_setCell_same _ tb 2 #[.int .i64 (turnW H W k), .int .i64 (turnW W H k), s0] 24 _ (heap_setCell_same _ tb 1 #[.int .i64 (turnW H W k), y0, s0] 24 _ (heap_setCell_same _ tb 0 #[x0, y0, s0] 24 _ hblk))
  · rw [turnW_next W H k hk, turnW_next H W k hk] at hm'
    refine cell_far3 (show g' ≠ tb by omega) ?_
    rw [hz m hm']
    have e := turn_more W H k m z hW hH hk (by omega)
    simp only [e]

end Go.Proofs.Ytejhmobpepllcaa
