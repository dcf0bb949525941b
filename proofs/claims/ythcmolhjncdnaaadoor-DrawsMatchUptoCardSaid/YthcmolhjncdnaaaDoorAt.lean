/-
  The contract of the reference's At: whether there is ink at a place, also beyond a page.
-/
import Derived.Test.YthcmolhjncdnaaaDoorBase
import Derived.Deep.RegionHeld3
import Derived.Deep.AppendLies
import Derived.Deep.DrawnRows
namespace Go.Proofs.YthcmolhjncdnaaaDoor
open Go.RowKit
set_option linter.unusedSimpArgs false
set_option linter.unusedVariables false

/-- Ink at a place, also beyond a page. -/
def atB (W H : Nat) (z : Nat → Bool) (x y : Int) : Bool := if (0 ≤ x ∧ x ≤ (W : Int) - 1) ∧ (0 ≤ y ∧ y ≤ (H : Int) - 1) then z (y.toNat * W + x.toNat) else false

theorem at_in (W H g o c x y : Nat) (q : Bool) (w : World) (hW : W ≤ 10000) (hH : H ≤ 10000) (hx : x < W) (hy : y < H) (hc : w.cell? ⟨g, o + (y * W + x), none⟩ = some (.bool q)) :
    Calls Tryd.prog 31 #[.agg #[.int .i64 W, .int .i64 H, .slice (some ⟨g, o, none⟩) (W * H) c], .int .i64 x, .int .i64 y] w fun e w' => e = .returned (.bool q) ∧ Below w.heap.size w w' := by
  have hcl := World.block_lt_of_cell? _ _ hc
  simp only at hcl
  have m0 : (0 : Int) ≤ (y : Int) * (W : Int) := Int.mul_nonneg (by omega) (by omega)
  have hfit := row_fits hy (show x + 1 ≤ W by omega)
  have m2 : (y : Int) * (W : Int) + (x : Int) < ((W * H : Nat) : Int) := by rw [← Int.natCast_mul]; omega
  have hN := Nat.mul_le_mul hW hH
  have m1 : (y : Int) * (W : Int) + (x : Int) < (W : Int) * (H : Int) := by rw [← Int.natCast_mul, ← Int.natCast_mul]; omega
  have m3 : (W : Int) * (H : Int) ≤ 100000000 := by rw [← Int.natCast_mul]; omega
  clear hfit hN
  go_enter Tryd.func31, Tryd.ntmps31
  go_wp2_with (first | (go_at_call 7; refine (in_yes _ _ _ _ (by omega)).mono ?_; rintro e w' ⟨rfl, rfl⟩))
  go_ret
  exact ⟨rfl, new_below _ _⟩

theorem at_out (W H g o n c : Nat) (x y : Int) (s : Option Addr) (w : World) (hW : W ≤ 10000) (hH : H ≤ 10000) (h : ¬ ((0 ≤ x ∧ x ≤ (W : Int) - 1) ∧ (0 ≤ y ∧ y ≤ (H : Int) - 1))) :
    Calls Tryd.prog 31 #[.agg #[.int .i64 W, .int .i64 H, .slice s n c], .int .i64 x, .int .i64 y] w fun e w' => e = .returned (.bool false) ∧ Below w.heap.size w w' := by
  by_cases hx : 0 ≤ x ∧ x ≤ (W : Int) - 1
  · have HY := Lib.hid (show ¬ (0 ≤ y ∧ y ≤ (H : Int) - 1) from fun k => h ⟨hx, k⟩)
    have HX := Lib.hid hx
    clear h hx
    go_enter Tryd.func31, Tryd.ntmps31
    go_wp2_with (first | (go_at_call 7; refine (in_no _ _ _ _ (by have := HY.out; omega)).mono ?_; rintro e w' ⟨rfl, rfl⟩) | (go_at_call 7; refine (in_yes _ _ _ _ (by have := HX.out; omega)).mono ?_; rintro e w' ⟨rfl, rfl⟩))
    go_ret
    exact ⟨rfl, new_below _ _⟩
  · have HX := Lib.hid hx
    clear h hx
    go_enter Tryd.func31, Tryd.ntmps31
    go_wp2_with (first | (go_at_call 7; refine (in_no _ _ _ _ (by have := HX.out; omega)).mono ?_; rintro e w' ⟨rfl, rfl⟩))
    go_ret
    exact ⟨rfl, new_below _ _⟩

end Go.Proofs.YthcmolhjncdnaaaDoor
