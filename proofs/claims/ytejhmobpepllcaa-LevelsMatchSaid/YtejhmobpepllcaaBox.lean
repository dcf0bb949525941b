/-
  Contracts of InPage and checkBox: whether a box is in a page.
-/
import Derived.Test.YtejhmobpepllcaaSmall
namespace Go.Proofs.Ytejhmobpepllcaa
open Go.RowKit
set_option linter.unusedSimpArgs false
set_option linter.unusedVariables false

/-- A box is in a page of W by H. -/
def InP (X Y bw bh : Int) (W H : Int) : Prop := (0 ≤ X ∧ X ≤ W - 1) ∧ (0 ≤ Y ∧ Y ≤ H - 1) ∧ (1 ≤ bw ∧ bw ≤ W - X) ∧ (1 ≤ bh ∧ bh ≤ H - Y)

theorem in_some (n a b : Int) (w : World) : Calls Try.prog 50 #[.int .i64 n, .int .i64 a, .int .i64 b] w fun r w' => (r = .returned (.bool true) ∨ r = .returned (.bool false)) ∧ w = w' :=
  (in_any n a b w).mono fun _ _ ⟨h1, h2⟩ => ⟨by cases h : decide (a ≤ n ∧ n ≤ b) <;> simp_all, h2⟩

theorem inPage_some (X Y bw bh W H : Int) (w : World) :
    Calls Try.prog 27 #[.agg #[.int .i64 X, .int .i64 Y, .int .i64 bw, .int .i64 bh], .int .i64 W, .int .i64 H] w fun e w' => (∃ q, e = .returned (.bool q)) ∧ Below w.heap.size w w' := by
  go_enter Try.func27, Try.ntmps27
  go_wp2_with (go_at_call 50; refine (in_some _ _ _ _).mono ?_; rintro e w' ⟨rfl | rfl, rfl⟩)
  all_goals go_ret
  all_goals exact ⟨⟨_, rfl⟩, new_below _ _⟩

theorem inPage_yes (X Y bw bh W H : Int) (w : World) (hW : 1 ≤ W ∧ W ≤ 4000) (hH : 1 ≤ H ∧ H ≤ 4000) (h : InP X Y bw bh W H) :
    Calls Try.prog 27 #[.agg #[.int .i64 X, .int .i64 Y, .int .i64 bw, .int .i64 bh], .int .i64 W, .int .i64 H] w fun e w' => e = .returned (.bool true) ∧ Below w.heap.size w w' := by
  obtain ⟨h1, h2, h3, h4⟩ := h
  go_enter Try.func27, Try.ntmps27
  go_wp2_with ((go_at_call 50; refine (in_yes _ _ _ _ (by omega)).mono ?_; rintro e w' ⟨rfl, rfl⟩))
  go_ret
  exact ⟨rfl, new_below _ _⟩

theorem inPage_no (X Y bw bh W H : Int) (w : World) (hW : 1 ≤ W ∧ W ≤ 4000) (hH : 1 ≤ H ∧ H ≤ 4000) (h : ¬ InP X Y bw bh W H) :
    Calls Try.prog 27 #[.agg #[.int .i64 X, .int .i64 Y, .int .i64 bw, .int .i64 bh], .int .i64 W, .int .i64 H] w fun e w' => e = .returned (.bool false) ∧ Below w.heap.size w w' := by
  by_cases h1 : 0 ≤ X ∧ X ≤ W - 1
  · by_cases h2 : 0 ≤ Y ∧ Y ≤ H - 1
    · by_cases h3 : 1 ≤ bw ∧ bw ≤ W - X
      · have h4 : ¬ (1 ≤ bh ∧ bh ≤ H - Y) := fun k => h ⟨h1, h2, h3, k⟩
        have H4 := Lib.hid h4
        clear h h4
        go_enter Try.func27, Try.ntmps27
        go_wp2_with (first | (go_at_call 50; refine (in_yes _ _ _ _ (by omega)).mono ?_; rintro e w' ⟨rfl, rfl⟩) | (go_at_call 50; refine (in_no _ _ _ _ (by have := H4.out; omega)).mono ?_; rintro e w' ⟨rfl, rfl⟩))
        go_ret
        exact ⟨rfl, new_below _ _⟩
      · have H3 := Lib.hid h3
        clear h h3
        go_enter Try.func27, Try.ntmps27
        go_wp2_with (first | (go_at_call 50; refine (in_yes _ _ _ _ (by omega)).mono ?_; rintro e w' ⟨rfl, rfl⟩) | (go_at_call 50; refine (in_no _ _ _ _ (by have := H3.out; omega)).mono ?_; rintro e w' ⟨rfl, rfl⟩))
        go_ret
        exact ⟨rfl, new_below _ _⟩
    · have H2 := Lib.hid h2
      clear h h2
      go_enter Try.func27, Try.ntmps27
      go_wp2_with (first | (go_at_call 50; refine (in_yes _ _ _ _ (by omega)).mono ?_; rintro e w' ⟨rfl, rfl⟩) | (go_at_call 50; refine (in_no _ _ _ _ (by have := H2.out; omega)).mono ?_; rintro e w' ⟨rfl, rfl⟩))
      go_ret
      exact ⟨rfl, new_below _ _⟩
  · have H1 := Lib.hid h1
    clear h h1
    go_enter Try.func27, Try.ntmps27
    go_wp2_with (first | (go_at_call 50; refine (in_no _ _ _ _ (by have := H1.out; omega)).mono ?_; rintro e w' ⟨rfl, rfl⟩))
    go_ret
    exact ⟨rfl, new_below _ _⟩

theorem checkBox_yes (X Y bw bh W H : Int) (w : World) (hW : 1 ≤ W ∧ W ≤ 4000) (hH : 1 ≤ H ∧ H ≤ 4000) (h : InP X Y bw bh W H) :
    Calls Try.prog 105 #[.int .i64 W, .int .i64 H, .agg #[.int .i64 X, .int .i64 Y, .int .i64 bw, .int .i64 bh]] w fun e w' => e = .returned (.int .i64 0) ∧ w.alloc (.cells #[.int .i64 X, .int .i64 Y, .int .i64 bw, .int .i64 bh] 29) = w' := by
  obtain ⟨h1, h2, h3, h4⟩ := h
  go_enter Try.func105, Try.ntmps105
  go_wp2
  go_ret
  exact ⟨rfl, rfl⟩

theorem checkBox_no (X Y bw bh W H : Int) (w : World) (hW : 1 ≤ W ∧ W ≤ 4000) (hH : 1 ≤ H ∧ H ≤ 4000) (h : ¬ InP X Y bw bh W H) :
    Calls Try.prog 105 #[.int .i64 W, .int .i64 H, .agg #[.int .i64 X, .int .i64 Y, .int .i64 bw, .int .i64 bh]] w fun e w' => e = .returned (.int .i64 13) ∧ w.alloc (.cells #[.int .i64 X, .int .i64 Y, .int .i64 bw, .int .i64 bh] 29) = w' := by
  by_cases a1 : bw < 1
  · go_enter Try.func105, Try.ntmps105
    go_wp2
    go_ret
    exact ⟨rfl, rfl⟩
  by_cases a2 : bh < 1
  · go_enter Try.func105, Try.ntmps105
    go_wp2
    go_ret
    exact ⟨rfl, rfl⟩
  by_cases a3 : X < 0
  · go_enter Try.func105, Try.ntmps105
    go_wp2
    go_ret
    exact ⟨rfl, rfl⟩
  by_cases a4 : Y < 0
  · go_enter Try.func105, Try.ntmps105
    go_wp2
    go_ret
    exact ⟨rfl, rfl⟩
  by_cases a5 : W < bw
  · go_enter Try.func105, Try.ntmps105
    go_wp2
    go_ret
    exact ⟨rfl, rfl⟩
  by_cases a6 : W - bw < X
  · go_enter Try.func105, Try.ntmps105
    go_wp2
    go_ret
    exact ⟨rfl, rfl⟩
  by_cases a7 : H < bh
  · go_enter Try.func105, Try.ntmps105
    go_wp2
    go_ret
    exact ⟨rfl, rfl⟩
  by_cases a8 : H - bh < Y
  · go_enter Try.func105, Try.ntmps105
    go_wp2
    go_ret
    exact ⟨rfl, rfl⟩
  exact absurd (show InP X Y bw bh W H from ⟨⟨by omega, by omega⟩, ⟨by omega, by omega⟩, ⟨by omega, by omega⟩, ⟨by omega, by omega⟩⟩) h

end Go.Proofs.Ytejhmobpepllcaa
