/-
  Contracts of rounded, Round, Down, noBits, noGray; no conditions but those named.
-/
import Derived.Test.YthcmolhjncdnaaaDoorFill
import Derived.Test.YthcmolhjncdnaaaDoorBlank
namespace Go.Proofs.YthcmolhjncdnaaaDoor
open Go.RowKit
set_option linter.unusedSimpArgs false
set_option linter.unusedVariables false

theorem rounded_any (a b : Int) (w : World) (h0 : 0 ≤ a) (h1 : a ≤ 1000000000000) (h2 : 1 ≤ b) (h3 : b ≤ 1000000000000) :
    Calls Tryd.prog 52 #[.int .i64 a, .int .i64 b] w fun r w' => r = .returned (.int .i64 ((2 * a + b) / (2 * b))) ∧ w = w' := by
  go_enter Tryd.func52, Tryd.ntmps52
  go_wp2
  go_ret
  exact ⟨rfl, rfl⟩

theorem down_any (a b : Int) (w : World) (h0 : 0 ≤ a) (h1 : a ≤ 10000000000000) (h2 : 1 ≤ b) (h3 : b ≤ 10000000000000) :
    Calls Tryd.prog 57 #[.int .i64 a, .int .i64 b] w fun r w' => r = .returned (.int .i64 (a / b)) ∧ w = w' := by
  have hq : 0 ≤ a / b := Int.ediv_nonneg h0 (by omega)
  have hm : a / b * b ≤ a := Int.ediv_mul_le a (by omega)
  have hm0 : 0 ≤ a / b * b := Int.mul_nonneg hq (by omega)
  go_enter Tryd.func57, Tryd.ntmps57
  go_wp2
  refine wp_loop_rounds 1 ?_
  rw [rounds_succ]
  go_wp2
  go_ret
  exact ⟨rfl, rfl⟩

theorem round_any (a b : Int) (w : World) (h0 : 0 ≤ a) (h1 : a ≤ 1000000000000) (h2 : 1 ≤ b) (h3 : b ≤ 1000000000000) :
    Calls Tryd.prog 36 #[.int .i64 a, .int .i64 b] w fun r w' => r = .returned (.int .i64 ((2 * a + b) / (2 * b))) ∧ w = w' := by
  go_enter Tryd.func36, Tryd.ntmps36
  go_wp2_with (go_at_call 57; refine (down_any _ _ _ (by omega) (by omega) (by omega) (by omega)).mono ?_; rintro e w' ⟨rfl, rfl⟩)
  go_ret
  exact ⟨rfl, rfl⟩

end Go.Proofs.YthcmolhjncdnaaaDoor
