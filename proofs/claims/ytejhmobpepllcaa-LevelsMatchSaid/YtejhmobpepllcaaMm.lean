/-
  The walk of the law MeansMatch: it returns true, and turns nothing that was there.
-/
import Derived.Test.YtejhmobpepllcaaMeans
import Derived.Test.YtejhmobpepllcaaEqInt
namespace Go.Proofs.Ytejhmobpepllcaa
open Go.RowKit
set_option linter.unusedSimpArgs false
set_option linter.unusedVariables false

theorem orI_left {a b : Int} (h : a ≠ 0) : orI a b = a := by unfold orI; rw [if_neg h]

set_option maxHeartbeats 1000000 in
set_option maxRecDepth 100000 in
theorem mm_badPage (a b r : Int) (p : Option Addr) (n c : Nat) (w : World) (h : pageErr a b n ≠ 0) :
    Calls Try.prog 7 #[.agg #[.int .i64 a, .int .i64 b, .slice p n c], .int .i64 r] w fun e w' => e = .returned (.bool true) ∧ Below w.heap.size w w' := by
  have h' : (pageErr a b n != 0) = true := by simpa using h
  have HO : ∀ y, orI (pageErr a b n) y = pageErr a b n := fun y => orI_left h
  have HH := Lib.hid h
  clear h
  go_enter Try.func7, Try.ntmps7
  go_wp2_with fail
  obtain ⟨w0, hw0⟩ : ∃ w0, w0 = w.alloc (.cells #[.int .i64 a, .int .i64 b, .slice p n c] 27) := ⟨_, rfl⟩
  have B0 : Below w.heap.size w w0 := by rw [hw0]; exact new_below _ _
  have q0 : w0.cell? ⟨w.heap.size, 0, none⟩ = some (.int .i64 a) := by rw [hw0]; go_simp
  have q1 : w0.cell? ⟨w.heap.size, 1, none⟩ = some (.int .i64 b) := by rw [hw0]; go_simp
  have q2 : w0.cell? ⟨w.heap.size, 2, none⟩ = some (.slice p n c) := by rw [hw0]; go_simp
  rw [← hw0]
  clear hw0
  refine (means_badPage a b r p n c w0 HH.out).mono ?_
  rintro e w1 ⟨rfl, hb1⟩
  have k0 := cell_later hb1 q0
  have k1 := cell_later hb1 q1
  have k2 := cell_later hb1 q2
  have B1 := below_step B0 hb1
  clear q0 q1 q2 B0 hb1
  go_wp2_with fail
  refine (grayError_any _ _ _ _ _ _).mono ?_
  rintro e w2 ⟨rfl, hb2⟩
  have B2 := below_step B1 hb2
  clear k0 k1 k2 B1 hb2
  go_wp2_with (first | (go_at_call 50; refine (in_any _ _ _ _).mono ?_; rintro e w' ⟨rfl, rfl⟩) | (go_at_call 26; refine (when_any _ _ _).mono ?_; rintro e w' ⟨rfl, rfl⟩) | (go_at_call 25; refine (first2_new _ _ _).mono ?_; rintro e w' ⟨rfl, rfl⟩))
  refine (pages_any _).mono ?_
  rintro e w3 ⟨rfl, hb3⟩
  have B3 := below_step (below_alloc B2 _) hb3
  clear B2 hb3
  go_wp2_with fail
  refine (pages_any _).mono ?_
  rintro e w4 ⟨rfl, hb4⟩
  have B4 := below_step B3 hb4
  clear B3 hb4
  go_wp2_with fail
  go_ret
  exact ⟨rfl, B4⟩

set_option maxHeartbeats 1000000 in
set_option maxRecDepth 100000 in
theorem mm_badRadius (a b r : Int) (p : Option Addr) (n c : Nat) (w : World) (h : pageErr a b n = 0) (hr : ¬ (0 ≤ r ∧ r ≤ 200)) :
    Calls Try.prog 7 #[.agg #[.int .i64 a, .int .i64 b, .slice p n c], .int .i64 r] w fun e w' => e = .returned (.bool true) ∧ Below w.heap.size w w' := by
  have HH := Lib.hid h
  have HR := Lib.hid hr
  have hd : decide (0 ≤ r ∧ r ≤ 200) = false := decide_eq_false hr
  have ho : orI 0 (whenI true 3) = 3 := rfl
  clear hr
  go_enter Try.func7, Try.ntmps7
  go_wp2_with fail
  obtain ⟨w0, hw0⟩ : ∃ w0, w0 = w.alloc (.cells #[.int .i64 a, .int .i64 b, .slice p n c] 27) := ⟨_, rfl⟩
  have B0 : Below w.heap.size w w0 := by rw [hw0]; exact new_below _ _
  have q0 : w0.cell? ⟨w.heap.size, 0, none⟩ = some (.int .i64 a) := by rw [hw0]; go_simp
  have q1 : w0.cell? ⟨w.heap.size, 1, none⟩ = some (.int .i64 b) := by rw [hw0]; go_simp
  have q2 : w0.cell? ⟨w.heap.size, 2, none⟩ = some (.slice p n c) := by rw [hw0]; go_simp
  rw [← hw0]
  clear hw0
  refine (means_badRadius a b r p n c w0 HH.out HR.out).mono ?_
  rintro e w1 ⟨rfl, hb1⟩
  have k0 := cell_later hb1 q0
  have k1 := cell_later hb1 q1
  have k2 := cell_later hb1 q2
  have B1 := below_step B0 hb1
  clear q0 q1 q2 B0 hb1
  go_wp2_with fail
  refine (grayError_any _ _ _ _ _ _).mono ?_
  rintro e w2 ⟨rfl, hb2⟩
  have B2 := below_step B1 hb2
  clear k0 k1 k2 B1 hb2
  go_wp2_with (first | (go_at_call 50; refine (in_any _ _ _ _).mono ?_; rintro e w' ⟨rfl, rfl⟩) | (go_at_call 26; refine (when_any _ _ _).mono ?_; rintro e w' ⟨rfl, rfl⟩) | (go_at_call 25; refine (first2_new _ _ _).mono ?_; rintro e w' ⟨rfl, rfl⟩))
  refine (pages_any _).mono ?_
  rintro e w3 ⟨rfl, hb3⟩
  have B3 := below_step (below_alloc B2 _) hb3
  clear B2 hb3
  go_wp2_with fail
  refine (pages_any _).mono ?_
  rintro e w4 ⟨rfl, hb4⟩
  have B4 := below_step B3 hb4
  clear B3 hb4
  go_wp2_with fail
  go_ret
  exact ⟨rfl, B4⟩

end Go.Proofs.Ytejhmobpepllcaa
