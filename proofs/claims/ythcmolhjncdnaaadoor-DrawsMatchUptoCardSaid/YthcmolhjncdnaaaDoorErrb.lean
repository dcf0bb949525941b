/-
  Contracts: GrayError and BitsError of the reference. No conditions.
-/
import Derived.Test.YthcmolhjncdnaaaDoorErr
namespace Go.Proofs.YthcmolhjncdnaaaDoor
open Go.RowKit
set_option linter.unusedSimpArgs false
set_option linter.unusedVariables false

theorem mul_wrap_zero {a b : Int} (h : sizeErr a b = 0) : IntKind.i64.wrap (a * b) = a * b := by
  have := sizeErr_zero h
  exact IntWalk.i64_in _ (by omega)

theorem err_shape (a b : Int) (n : Nat) : orI (sizeErr a b) (whenI ((n : Int) != IntKind.i64.wrap (a * b)) 2) = pageErr a b n := by
  unfold orI whenI pageErr
  by_cases h : sizeErr a b = 0
  · rw [mul_wrap_zero h, if_pos h, if_pos h]
    by_cases h2 : (n : Int) = a * b
    · rw [if_pos h2, if_neg (by simpa using h2)]
    · rw [if_neg h2, if_pos (by simpa using h2)]
  · rw [if_neg h, if_neg h]

set_option maxRecDepth 100000 in
theorem bitsError_any (a b : Int) (p : Option Addr) (n c : Nat) (w : World) :
    Calls Tryd.prog 14 #[.agg #[.int .i64 a, .int .i64 b, .slice p n c]] w fun r w' => r = .returned (.int .i64 (pageErr a b n)) ∧ Below w.heap.size w w' := by
  go_enter Tryd.func14, Tryd.ntmps14
  go_wp2
  go_region_held3 (fun w' => w'.cell? ⟨w.heap.size, 0, none⟩ = some (.int .i64 a) ∧ w'.cell? ⟨w.heap.size, 1, none⟩ = some (.int .i64 b) ∧ w'.cell? ⟨w.heap.size, 2, none⟩ = some (.slice p n c)) (first | go_keep | (go_split_ands; exact ⟨cell_later hb (by assumption), cell_later hb (by assumption), cell_later hb (by assumption)⟩)) ((first | (go_at_call 8; refine (sizeError_any _ _ _).mono ?_; rintro e w' ⟨rfl, hb⟩) | (go_at_call 6; refine (when_any _ _ _).mono ?_; rintro e w' ⟨rfl, rfl⟩) | (go_at_call 5; refine (first2_new _ _ _).mono ?_; rintro e w' ⟨rfl, rfl⟩)))
  go_wp2
  go_ret
  exact ⟨ret_int (err_shape a b n), below_alloc (below_step (new_below _ _).drew hb) _⟩

end Go.Proofs.YthcmolhjncdnaaaDoor
