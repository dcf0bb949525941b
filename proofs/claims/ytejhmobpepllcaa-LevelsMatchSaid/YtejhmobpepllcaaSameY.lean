/-
  Contracts of noGray, SameGray and bitsIs, where they answer true.
-/
import Derived.Test.YtejhmobpepllcaaMade
import Derived.Test.YtejhmobpepllcaaEqY
import Derived.Test.YtejhmobpepllcaaEqB
namespace Go.Proofs.Ytejhmobpepllcaa
open Go.RowKit
set_option linter.unusedSimpArgs false
set_option linter.unusedVariables false
attribute [local go_sem ↓] Go.wp_at_zero Go.wp_at_succ

theorem noGray_zero (w : World) : Calls Try.prog 31 #[.agg #[.int .i64 0, .int .i64 0, .slice none 0 0]] w fun e w' => e = .returned (.bool true) ∧ Below w.heap.size w w' := by
  go_enter Try.func31, Try.ntmps31
  go_wp2
  go_ret
  exact ⟨rfl, new_below _ _⟩

theorem sameGray_true (W H : Int) (g1 o1 g2 o2 n c1 c2 : Nat) (z : Nat → Int) (w : World) (hn : n ≤ 100000000)
    (h1 : ∀ j, j < n → w.cell? ⟨g1, o1 + j, none⟩ = some (.int .u8 (z j))) (h2 : ∀ j, j < n → w.cell? ⟨g2, o2 + j, none⟩ = some (.int .u8 (z j))) :
    Calls Try.prog 32 #[.agg #[.int .i64 W, .int .i64 H, .slice (some ⟨g1, o1, none⟩) n c1], .agg #[.int .i64 W, .int .i64 H, .slice (some ⟨g2, o2, none⟩) n c2]] w fun e w' => e = .returned (.bool true) ∧ Below w.heap.size w w' := by
  have HE := Lib.hid (equalByte_true g1 o1 g2 o2 n c1 c2 z ((w.alloc (.cells #[.int .i64 W, .int .i64 H, .slice (some ⟨g1, o1, none⟩) n c1] 27)).alloc (.cells #[.int .i64 W, .int .i64 H, .slice (some ⟨g2, o2, none⟩) n c2] 27)) hn
    (fun j hj => cell_later (below_alloc (new_below _ _) _) (h1 j hj)) (fun j hj => cell_later (below_alloc (new_below _ _) _) (h2 j hj)))
  clear h1 h2
  go_enter Try.func32, Try.ntmps32
  go_wp2_with (go_at_call 109; refine HE.out.mono ?_; rintro e w1 ⟨rfl, q, rfl⟩)
  go_ret
  exact ⟨rfl, below_drewN (below_alloc (new_below _ _) _) q⟩

/-- A page in memory: W by H, its places in cells as z tells. -/
def PageY (w : World) (v : Value) (W H : Int) (n : Nat) (z : Nat → Int) : Prop :=
  ∃ g o c, v = .agg #[.int .i64 W, .int .i64 H, .slice (some ⟨g, o, none⟩) n c] ∧ ∀ j, j < n → w.cell? ⟨g, o + j, none⟩ = some (.int .u8 (z j))

end Go.Proofs.Ytejhmobpepllcaa
