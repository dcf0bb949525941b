/-
  Plain mathematics: sums of rectangles of a page, and the list of sums above and left of each corner.
-/
import Derived.Test.YtejhmobpepllcaaFill
namespace Go.Proofs.Ytejhmobpepllcaa
set_option linter.unusedSimpArgs false
set_option linter.unusedVariables false

/-- The sum of n values from k on. -/
def rowSum (P : Nat → Int) (k : Nat) : Nat → Int
  | 0 => 0
  | n + 1 => rowSum P k n + P (k + n)

/-- The sum of a rectangle of a page that is W wide: from (x, y) on, nx wide and ny high. -/
def rectSum (P : Nat → Int) (W y x nx : Nat) : Nat → Int
  | 0 => 0
  | n + 1 => rectSum P W y x nx n + rowSum P ((y + n) * W + x) nx

theorem rowSum_add (P : Nat → Int) (k a b : Nat) : rowSum P k (a + b) = rowSum P k a + rowSum P (k + a) b := by
  induction b with
  | zero => simp [rowSum]
  | succ n ih => rw [← Nat.add_assoc, rowSum, ih, rowSum, Nat.add_assoc k a n]; omega

theorem rectSum_addx (P : Nat → Int) (W y x a b n : Nat) : rectSum P W y x (a + b) n = rectSum P W y x a n + rectSum P W y (x + a) b n := by
  induction n with
  | zero => simp [rectSum]
  | succ n ih => simp only [rectSum, ih, rowSum_add, Nat.add_assoc]; omega

theorem rectSum_addy (P : Nat → Int) (W y x nx a b : Nat) : rectSum P W y x nx (a + b) = rectSum P W y x nx a + rectSum P W (y + a) x nx b := by
  induction b with
  | zero => simp [rectSum]
  | succ n ih => rw [← Nat.add_assoc, rectSum, ih, rectSum, Nat.add_assoc y a n]; omega

theorem rowSum_bounds (P : Nat → Int) (hP : ∀ j, 0 ≤ P j ∧ P j ≤ 255) (k n : Nat) : 0 ≤ rowSum P k n ∧ rowSum P k n ≤ 255 * n := by
  induction n with
  | zero => simp [rowSum]
  | succ n ih => have := hP (k + n); simp only [rowSum]; omega

theorem rectSum_bounds (P : Nat → Int) (hP : ∀ j, 0 ≤ P j ∧ P j ≤ 255) (W y x nx n : Nat) : 0 ≤ rectSum P W y x nx n ∧ rectSum P W y x nx n ≤ 255 * (nx * n : Nat) := by
  induction n with
  | zero => simp [rectSum]
  | succ n ih => have := rowSum_bounds P hP ((y + n) * W + x) nx; simp only [rectSum, Nat.mul_add, Nat.mul_one]; omega

/-- The four corners. -/
theorem rect_corners (P : Nat → Int) (W l t nx ny : Nat) :
    rectSum P W t l nx ny = rectSum P W 0 0 (l + nx) (t + ny) - rectSum P W 0 0 l (t + ny) - rectSum P W 0 0 (l + nx) t + rectSum P W 0 0 l t := by
  have h1 := rectSum_addx P W 0 0 l nx (t + ny)
  have h2 := rectSum_addx P W 0 0 l nx t
  have h3 := rectSum_addy P W 0 (0 + l) nx t ny
  simp only [Nat.zero_add] at h1 h2 h3
  omega

/-- What the list of sums holds at place k when rows above y and x values of row y are summed up. -/
def sumAt (P : Nat → Int) (W y x k : Nat) : Int := if k / (W + 1) ≤ y ∨ (k / (W + 1) = y + 1 ∧ k % (W + 1) ≤ x) then rectSum P W 0 0 (k % (W + 1)) (k / (W + 1)) else 0

def sumList (P : Nat → Int) (W H y x : Nat) : List Value := (List.range ((W + 1) * (H + 1))).map fun k => Value.int .i64 (sumAt P W y x k)

theorem rectSum_thin (P : Nat → Int) (W y x n : Nat) : rectSum P W y x 0 n = 0 := by
  induction n with
  | zero => rfl
  | succ n ih => simp [rectSum, ih, rowSum]

theorem sumList_start (P : Nat → Int) (W H : Nat) : sumList P W H 0 0 = List.replicate ((W + 1) * (H + 1)) (Value.int .i64 0) := by
  apply List.ext_getElem
  · simp [sumList]
  · intro k h1 h2
    simp only [sumList, List.getElem_map, List.getElem_range, List.getElem_replicate]
    congr 1
    unfold sumAt
    split
    · rename_i h
      rcases h with h | ⟨h, h'⟩
      · rw [Nat.le_zero.mp h]; rfl
      · rw [Nat.le_zero.mp h']; exact rectSum_thin ..
    · rfl

theorem divmod_at (W y x : Nat) (hx : x < W + 1) : (y * (W + 1) + x) / (W + 1) = y ∧ (y * (W + 1) + x) % (W + 1) = x := by
  rw [Nat.mul_comm]
  exact ⟨by rw [Nat.mul_add_div (by omega), Nat.div_eq_of_lt hx, Nat.add_zero], by rw [Nat.mul_add_mod, Nat.mod_eq_of_lt hx]⟩

theorem sumList_row (P : Nat → Int) (W H y : Nat) : sumList P W H y W = sumList P W H (y + 1) 0 := by
  unfold sumList
  apply List.map_congr_left
  intro k _
  congr 1
  unfold sumAt
  have hm : k % (W + 1) ≤ W := by have := Nat.mod_lt k (show 0 < W + 1 by omega); omega
  by_cases h : k / (W + 1) ≤ y + 1
  · rw [if_pos (by omega), if_pos (by omega)]
  · rw [if_neg (by omega)]
    split
    · rename_i h'
      rcases h' with h' | ⟨_, h'⟩
      · exact absurd h' h
      · rw [Nat.le_zero.mp h']; exact (rectSum_thin ..).symm
    · rfl

theorem sumList_step (P : Nat → Int) (W H y x : Nat) (hx : x < W) (hy : y < H) :
    (sumList P W H y x).set ((y + 1) * (W + 1) + x + 1) (Value.int .i64 (rectSum P W 0 0 (x + 1) (y + 1))) = sumList P W H y (x + 1) := by
  apply List.ext_getElem
  · simp [sumList]
  · intro k h1 h2
    rw [List.getElem_set]
    simp only [sumList, List.getElem_map, List.getElem_range]
    obtain ⟨d1, d2⟩ := divmod_at W (y + 1) (x + 1) (by omega)
    rw [← Nat.add_assoc] at d1 d2
    by_cases hk : (y + 1) * (W + 1) + x + 1 = k
    · rw [if_pos hk]
      subst hk
      unfold sumAt
      rw [d1, d2, if_pos (by omega)]
    · rw [if_neg hk]
      congr 1
      unfold sumAt
      have hne : ¬ (k / (W + 1) = y + 1 ∧ k % (W + 1) = x + 1) := by
        rintro ⟨e1, e2⟩
        apply hk
        have := Nat.div_add_mod k (W + 1)
        rw [e1, e2, Nat.mul_comm] at this
        omega
      by_cases hc : k / (W + 1) ≤ y ∨ (k / (W + 1) = y + 1 ∧ k % (W + 1) ≤ x)
      · rw [if_pos hc, if_pos (by omega)]
      · rw [if_neg hc, if_neg (by omega)]

theorem sumList_get (P : Nat → Int) (W H y x j i : Nat) (hi : i ≤ W) (hj : j ≤ H) (hd : j ≤ y ∨ (j = y + 1 ∧ i ≤ x)) : (sumList P W H y x)[j * (W + 1) + i]? = some (Value.int .i64 (rectSum P W 0 0 i j)) := by
  have hlt : j * (W + 1) + i < (W + 1) * (H + 1) := by
    have : (j + 1) * (W + 1) ≤ (H + 1) * (W + 1) := Nat.mul_le_mul_right _ (by omega)
    rw [Nat.add_mul j 1, Nat.one_mul] at this
    rw [Nat.mul_comm (W + 1) (H + 1)]
    omega
  obtain ⟨d1, d2⟩ := divmod_at W j i (by omega)
  unfold sumList
  rw [List.getElem?_map, List.getElem?_range hlt]
  simp only [Option.map_some]
  congr 2
  unfold sumAt
  rw [d1, d2, if_pos hd]

end Go.Proofs.Ytejhmobpepllcaa
