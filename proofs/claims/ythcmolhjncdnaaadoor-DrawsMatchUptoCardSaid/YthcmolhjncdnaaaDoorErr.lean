/-
  Contracts: the errors of sizes and of pages, as the references reckon them and as package page does. No conditions.
-/
import Derived.Test.YthcmolhjncdnaaaDoorLeaf
import Derived.Deep.RegionHeld3
namespace Go.Proofs.YthcmolhjncdnaaaDoor
open Go.RowKit
set_option linter.unusedSimpArgs false
set_option linter.unusedVariables false

/-- The first of two errors. -/
def orI (x y : Int) : Int := if x = 0 then y else x

theorem first2_any (b : Nat) (x y : Int) (w : World) (h0 : w.cell? ⟨b, 0, none⟩ = some (.int .i64 x)) (h1 : w.cell? ⟨b, 1, none⟩ = some (.int .i64 y)) :
    Calls Tryd.prog 5 #[.slice (some ⟨b, 0, none⟩) 2 2] w fun r w' => r = .returned (.int .i64 (orI x y)) ∧ w = w' := by
  refine (first_any b [x, y] w (by simp) ?_).mono ?_
  · intro j hj
    match j, hj with
    | 0, _ => exact h0
    | 1, _ => exact h1
  · rintro e w' ⟨rfl, rfl⟩
    refine ⟨ret_int ?_, rfl⟩
    simp only [firstOf, orI]
    by_cases hx : x = 0
    · by_cases hy : y = 0 <;> simp [hx, hy]
    · simp [hx]

theorem first2_new (x y : Int) (w : World) :
    Calls Tryd.prog 5 #[.slice (some ⟨w.heap.size, 0, none⟩) 2 2] (w.alloc (.cells #[.int .i64 x, .int .i64 y] 26)) fun r w' => r = .returned (.int .i64 (orI x y)) ∧ w.alloc (.cells #[.int .i64 x, .int .i64 y] 26) = w' :=
  first2_any _ x y _ (by rw [World.cell?_alloc_at _ _ _ _ rfl]; rfl) (by rw [World.cell?_alloc_at _ _ _ _ rfl]; rfl)

theorem new_below (w : World) (o : Obj) : Below w.heap.size w (w.alloc o) := (Below.refl _ _).alloc (Nat.le_refl _) _
theorem below_step {w a b : World} (h : Below w.heap.size w a) (k : Below a.heap.size a b) : Below w.heap.size w b := h.trans (k.mono h.size)
theorem below_alloc {w a : World} (h : Below w.heap.size w a) (o : Obj) : Below w.heap.size w (a.alloc o) := h.alloc h.size o

theorem sizeError_any (a b : Int) (w : World) : Calls Tryd.prog 8 #[.int .i64 a, .int .i64 b] w fun r w' => r = .returned (.int .i64 (sizeErr a b)) ∧ Below w.heap.size w w' := by
  by_cases h1 : 1 ≤ a ∧ a ≤ 4000
  · obtain ⟨h1, h2⟩ := h1
    by_cases h3 : 1 ≤ b ∧ b ≤ 4000
    · obtain ⟨h3, h4⟩ := h3
      have hm := mul_small h1 h3 h2 h4
      have hw : wrap64 (a * b) = a * b := by unfold wrap64; omega
      by_cases h5 : 1048576 < a * b
      · have HS := Lib.hid (show sizeErr a b = 4 by unfold sizeErr; rw [if_neg (by omega), if_pos h5])
        go_enter Tryd.func8, Tryd.ntmps8
        go_wp2_with (first | (go_at_call 7; refine (in_any _ _ _ _).mono ?_; rintro e w' ⟨rfl, rfl⟩) | (go_at_call 6; refine (when_any _ _ _).mono ?_; rintro e w' ⟨rfl, rfl⟩) | (go_at_call 5; refine (first2_new _ _ _).mono ?_; rintro e w' ⟨rfl, rfl⟩))
        go_ret
        exact ⟨ret_int (by rw [HS.out]; rfl), new_below _ _⟩
      · have HS := Lib.hid (show sizeErr a b = 0 by unfold sizeErr; rw [if_neg (by omega), if_neg (by omega)])
        go_enter Tryd.func8, Tryd.ntmps8
        go_wp2_with (first | (go_at_call 7; refine (in_any _ _ _ _).mono ?_; rintro e w' ⟨rfl, rfl⟩) | (go_at_call 6; refine (when_any _ _ _).mono ?_; rintro e w' ⟨rfl, rfl⟩) | (go_at_call 5; refine (first2_new _ _ _).mono ?_; rintro e w' ⟨rfl, rfl⟩))
        go_ret
        exact ⟨ret_int (by rw [HS.out, show decide (1048576 < a * b) = false from decide_eq_false (by omega)]; rfl), new_below _ _⟩
    · have h1d : decide (1 ≤ a ∧ a ≤ 4000) = true := by simp; omega
      have h3d : decide (1 ≤ b ∧ b ≤ 4000) = false := by simp; omega
      have HS := Lib.hid (show sizeErr a b = 3 by unfold sizeErr; rw [if_pos (by omega)])
      clear h3
      go_enter Tryd.func8, Tryd.ntmps8
      go_wp2_with (first | (go_at_call 7; refine (in_any _ _ _ _).mono ?_; rintro e w' ⟨rfl, rfl⟩) | (go_at_call 6; refine (when_any _ _ _).mono ?_; rintro e w' ⟨rfl, rfl⟩) | (go_at_call 5; refine (first2_new _ _ _).mono ?_; rintro e w' ⟨rfl, rfl⟩))
      go_ret
      exact ⟨ret_int (by rw [HS.out]; rfl), new_below _ _⟩
  · have h1d : decide (1 ≤ a ∧ a ≤ 4000) = false := by simp; omega
    have HS := Lib.hid (show sizeErr a b = 3 by unfold sizeErr; rw [if_pos (by omega)])
    clear h1
    go_enter Tryd.func8, Tryd.ntmps8
    go_wp2_with (first | (go_at_call 7; refine (in_any _ _ _ _).mono ?_; rintro e w' ⟨rfl, rfl⟩) | (go_at_call 6; refine (when_any _ _ _).mono ?_; rintro e w' ⟨rfl, rfl⟩) | (go_at_call 5; refine (first2_new _ _ _).mono ?_; rintro e w' ⟨rfl, rfl⟩))
    go_ret
    exact ⟨ret_int (by rw [HS.out]; rfl), new_below _ _⟩

theorem sizeErr_zero {a b : Int} (h : sizeErr a b = 0) : (1 ≤ a ∧ a ≤ 4000 ∧ 1 ≤ b ∧ b ≤ 4000) ∧ 0 ≤ a * b ∧ a * b ≤ 1048576 := by
  unfold sizeErr at h
  split at h
  · simp at h
  · split at h
    · simp at h
    · have := mul_small (by omega : 1 ≤ a) (by omega : 1 ≤ b) (by omega) (by omega)
      omega

/-- The error of a page: of its size, else of the number of its pixels. -/
def pageErr (a b : Int) (n : Nat) : Int := if sizeErr a b = 0 then (if (n : Int) = a * b then 0 else 2) else sizeErr a b

theorem check_any (a b : Int) (n : Nat) (w : World) : Calls Tryd.prog 50 #[.int .i64 a, .int .i64 b, .int .i64 n] w fun r w' => r = .returned (.int .i64 (pageErr a b n)) ∧ w = w' := by
  by_cases h : sizeErr a b = 0
  · have hz := sizeErr_zero h
    have H := Lib.hid h
    have hs : pageErr a b n = if (n : Int) = a * b then 0 else 2 := by unfold pageErr; rw [if_pos h]
    have HS := Lib.hid hs
    have hw : wrap64 (a * b) = a * b := by unfold wrap64; omega
    by_cases h2 : (n : Int) = a * b
    · have h2' : ((n : Int) != a * b) = false := by simpa using h2
      have H2 := Lib.hid h2
      clear h2 hs
      go_enter Tryd.func50, Tryd.ntmps50
      go_wp2_with ((go_at_call 21; refine (checkSize_any _ _ _).mono ?_; rintro e w' ⟨rfl, rfl⟩))
      go_ret
      exact ⟨ret_int (by rw [HS.out, if_pos H2.out]), rfl⟩
    · have h2' : ((n : Int) != a * b) = true := by simpa using h2
      have H2 := Lib.hid h2
      clear h2 hs
      go_enter Tryd.func50, Tryd.ntmps50
      go_wp2_with ((go_at_call 21; refine (checkSize_any _ _ _).mono ?_; rintro e w' ⟨rfl, rfl⟩))
      go_ret
      exact ⟨ret_int (by rw [HS.out, if_neg H2.out]), rfl⟩
  · have h' : (sizeErr a b != 0) = true := by simpa using h
    have H := Lib.hid h
    clear h
    go_enter Tryd.func50, Tryd.ntmps50
    go_wp2_with ((go_at_call 21; refine (checkSize_any _ _ _).mono ?_; rintro e w' ⟨rfl, rfl⟩))
    go_ret
    exact ⟨ret_int (by unfold pageErr; rw [if_neg H.out]), rfl⟩

theorem checkBits_any (a b : Int) (p : Option Addr) (n c : Nat) (w : World) : Calls Tryd.prog 29 #[.agg #[.int .i64 a, .int .i64 b, .slice p n c]] w fun r w' => r = .returned (.int .i64 (pageErr a b n)) ∧ w.alloc (.cells #[.int .i64 a, .int .i64 b, .slice p n c] 24) = w' := by
  go_enter Tryd.func29, Tryd.ntmps29
  go_wp2_with ((go_at_call 50; refine (check_any _ _ _ _).mono ?_; rintro e w' ⟨rfl, rfl⟩))
  go_ret
  exact ⟨rfl, rfl⟩

end Go.Proofs.YthcmolhjncdnaaaDoor
