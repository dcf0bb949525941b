/-
  Plain mathematics: squares of pixels: whether some, or all, are ink; and how that is told by the sum of ink.
-/
import Derived.Test.YtejhmobpepllcaaInk
import Derived.Test.YtejhmobpepllcaaAt
namespace Go.Proofs.Ytejhmobpepllcaa
set_option linter.unusedSimpArgs false
set_option linter.unusedVariables false

def rowSome (W H : Nat) (z : Nat → Bool) (j x0 : Int) : Nat → Bool
  | 0 => false
  | k + 1 => rowSome W H z j x0 k || atB W H z (x0 + (k : Int)) j
def rowAll (W H : Nat) (z : Nat → Bool) (j x0 : Int) : Nat → Bool
  | 0 => true
  | k + 1 => rowAll W H z j x0 k && atB W H z (x0 + (k : Int)) j
def sqSome (W H : Nat) (z : Nat → Bool) (y0 x0 : Int) (m : Nat) : Nat → Bool
  | 0 => false
  | k + 1 => sqSome W H z y0 x0 m k || rowSome W H z (y0 + (k : Int)) x0 m
def sqAll (W H : Nat) (z : Nat → Bool) (y0 x0 : Int) (m : Nat) : Nat → Bool
  | 0 => true
  | k + 1 => sqAll W H z y0 x0 m k && rowAll W H z (y0 + (k : Int)) x0 m

theorem rowSome_iff (W H : Nat) (z : Nat → Bool) (j x0 : Int) (m : Nat) : rowSome W H z j x0 m = true ↔ ∃ l : Nat, l < m ∧ atB W H z (x0 + (l : Int)) j = true := by
  induction m with
  | zero => simp [rowSome]
  | succ k ih =>
    simp only [rowSome, Bool.or_eq_true, ih]
    constructor
    · rintro (⟨l, h1, h2⟩ | h)
      · exact ⟨l, by omega, h2⟩
      · exact ⟨k, by omega, h⟩
    · rintro ⟨l, h1, h2⟩
      by_cases e : l = k
      · exact .inr (e ▸ h2)
      · exact .inl ⟨l, by omega, h2⟩

theorem rowAll_iff (W H : Nat) (z : Nat → Bool) (j x0 : Int) (m : Nat) : rowAll W H z j x0 m = true ↔ ∀ l : Nat, l < m → atB W H z (x0 + (l : Int)) j = true := by
  induction m with
  | zero => simp [rowAll]
  | succ k ih =>
    simp only [rowAll, Bool.and_eq_true, ih]
    constructor
    · rintro ⟨h, h'⟩ l hl
      by_cases e : l = k
      · exact e ▸ h'
      · exact h l (by omega)
    · exact fun h => ⟨fun l hl => h l (by omega), h k (by omega)⟩

theorem sqSome_iff (W H : Nat) (z : Nat → Bool) (y0 x0 : Int) (m n : Nat) : sqSome W H z y0 x0 m n = true ↔ ∃ k l : Nat, k < n ∧ l < m ∧ atB W H z (x0 + (l : Int)) (y0 + (k : Int)) = true := by
  induction n with
  | zero => simp [sqSome]
  | succ q ih =>
    simp only [sqSome, Bool.or_eq_true, ih, rowSome_iff]
    constructor
    · rintro (⟨k, l, h1, h2, h3⟩ | ⟨l, h2, h3⟩)
      · exact ⟨k, l, by omega, h2, h3⟩
      · exact ⟨q, l, by omega, h2, h3⟩
    · rintro ⟨k, l, h1, h2, h3⟩
      by_cases e : k = q
      · exact .inr ⟨l, h2, e ▸ h3⟩
      · exact .inl ⟨k, l, by omega, h2, h3⟩

theorem sqAll_iff (W H : Nat) (z : Nat → Bool) (y0 x0 : Int) (m n : Nat) : sqAll W H z y0 x0 m n = true ↔ ∀ k l : Nat, k < n → l < m → atB W H z (x0 + (l : Int)) (y0 + (k : Int)) = true := by
  induction n with
  | zero => simp [sqAll]
  | succ q ih =>
    simp only [sqAll, Bool.and_eq_true, ih, rowAll_iff]
    constructor
    · rintro ⟨h, h'⟩ k l hk hl
      by_cases e : k = q
      · exact e ▸ h' l hl
      · exact h k l (by omega) hl
    · exact fun h => ⟨fun k l hk hl => h k l (by omega) hl, fun l hl => h q l (by omega) hl⟩

/-- Whether some, whether all pixels of the square around (x, y) are ink. -/
def spreadB (W H : Nat) (z : Nat → Bool) (r x y : Nat) : Bool := sqSome W H z ((y : Int) - (r : Int)) ((x : Int) - (r : Int)) (2 * r + 1) (2 * r + 1)
def shrinkB (W H : Nat) (z : Nat → Bool) (r x y : Nat) : Bool := sqAll W H z ((y : Int) - (r : Int)) ((x : Int) - (r : Int)) (2 * r + 1) (2 * r + 1)

theorem atB_nat (W H : Nat) (z : Nat → Bool) (x y : Nat) (hx : x < W) (hy : y < H) : atB W H z (x : Int) (y : Int) = z (y * W + x) := by
  unfold atB; rw [if_pos (by omega)]; simp
theorem atB_true {W H : Nat} {z : Nat → Bool} {x y : Int} (h : atB W H z x y = true) : ∃ i j : Nat, x = (i : Int) ∧ y = (j : Int) ∧ i < W ∧ j < H ∧ z (j * W + i) = true := by
  unfold atB at h
  split at h
  · exact ⟨x.toNat, y.toNat, by omega, by omega, by omega, by omega, h⟩
  · cases h

theorem spreadB_iff (W H : Nat) (z : Nat → Bool) (r x y : Nat) : spreadB W H z r x y = true ↔ ∃ i j : Nat, i < W ∧ j < H ∧ (x ≤ i + r ∧ i ≤ x + r) ∧ (y ≤ j + r ∧ j ≤ y + r) ∧ z (j * W + i) = true := by
  unfold spreadB
  rw [sqSome_iff]
  constructor
  · rintro ⟨k, l, hk, hl, h⟩
    obtain ⟨i, j, h1, h2, h3, h4, h5⟩ := atB_true h
    exact ⟨i, j, h3, h4, by omega, by omega, h5⟩
  · rintro ⟨i, j, h3, h4, h1, h2, h5⟩
    refine ⟨j + r - y, i + r - x, by omega, by omega, ?_⟩
    rw [show (x : Int) - (r : Int) + ((i + r - x : Nat) : Int) = (i : Int) by omega, show (y : Int) - (r : Int) + ((j + r - y : Nat) : Int) = (j : Int) by omega, atB_nat W H z i j h3 h4]
    exact h5

theorem shrinkB_iff (W H : Nat) (z : Nat → Bool) (r x y : Nat) : shrinkB W H z r x y = true ↔
    (r ≤ x ∧ x + r < W ∧ r ≤ y ∧ y + r < H) ∧ ∀ i j : Nat, (x ≤ i + r ∧ i ≤ x + r) → (y ≤ j + r ∧ j ≤ y + r) → z (j * W + i) = true := by
  unfold shrinkB
  rw [sqAll_iff]
  constructor
  · intro h
    obtain ⟨i1, j1, a1, a2, a3, a4, _⟩ := atB_true (h 0 0 (by omega) (by omega))
    obtain ⟨i2, j2, b1, b2, b3, b4, _⟩ := atB_true (h (2 * r) (2 * r) (by omega) (by omega))
    refine ⟨by omega, fun i j h1 h2 => ?_⟩
    have := h (j + r - y) (i + r - x) (by omega) (by omega)
    rw [show (x : Int) - (r : Int) + ((i + r - x : Nat) : Int) = (i : Int) by omega, show (y : Int) - (r : Int) + ((j + r - y : Nat) : Int) = (j : Int) by omega, atB_nat W H z i j (by omega) (by omega)] at this
    exact this
  · rintro ⟨h0, h⟩ k l hk hl
    rw [show (x : Int) - (r : Int) + (l : Int) = ((x - r + l : Nat) : Int) by omega, show (y : Int) - (r : Int) + (k : Int) = ((y - r + k : Nat) : Int) by omega, atB_nat W H z _ _ (by omega) (by omega)]
    exact h _ _ (by omega) (by omega)

theorem rowInk_bounds (z : Nat → Bool) (k n : Nat) : 0 ≤ rowSum (fun j => inkOne (z j)) k n ∧ rowSum (fun j => inkOne (z j)) k n ≤ n := by
  induction n with
  | zero => simp [rowSum]
  | succ n ih => simp only [rowSum]; unfold inkOne at ih ⊢; split <;> omega

theorem rectInk_bounds (z : Nat → Bool) (W y x nx n : Nat) : 0 ≤ rectSum (fun j => inkOne (z j)) W y x nx n ∧ rectSum (fun j => inkOne (z j)) W y x nx n ≤ ((nx * n : Nat) : Int) := by
  induction n with
  | zero => simp [rectSum]
  | succ n ih => have := rowInk_bounds z ((y + n) * W + x) nx; simp only [rectSum, Nat.mul_add, Nat.mul_one]; omega

theorem rowInk_pos (z : Nat → Bool) (k n : Nat) : 1 ≤ rowSum (fun j => inkOne (z j)) k n ↔ ∃ i, i < n ∧ z (k + i) = true := by
  induction n with
  | zero => simp [rowSum]
  | succ n ih =>
    have hb := rowInk_bounds z k n
    simp only [rowSum]
    constructor
    · intro h
      cases hz : z (k + n)
      · obtain ⟨i, h1, h2⟩ := ih.1 (by simp [inkOne, hz] at h; simpa [inkOne] using h)
        exact ⟨i, by omega, h2⟩
      · exact ⟨n, by omega, hz⟩
    · rintro ⟨i, h1, h2⟩
      by_cases e : i = n
      · subst e; simp only [inkOne, h2, if_true]; unfold inkOne at hb; omega
      · have := ih.2 ⟨i, by omega, h2⟩
        have hi := inkOne_bounds (z (k + n))
        omega

theorem rectInk_pos (z : Nat → Bool) (W y x nx n : Nat) : 1 ≤ rectSum (fun j => inkOne (z j)) W y x nx n ↔ ∃ j i, j < n ∧ i < nx ∧ z ((y + j) * W + x + i) = true := by
  induction n with
  | zero => simp [rectSum]
  | succ n ih =>
    have hb := rectInk_bounds z W y x nx n
    have hr := rowInk_bounds z ((y + n) * W + x) nx
    have hp := rowInk_pos z ((y + n) * W + x) nx
    simp only [rectSum]
    constructor
    · intro h
      by_cases h1 : 1 ≤ rectSum (fun j => inkOne (z j)) W y x nx n
      · obtain ⟨j, i, h2, h3, h4⟩ := ih.1 h1
        exact ⟨j, i, by omega, h3, h4⟩
      · obtain ⟨i, h2, h3⟩ := hp.1 (by omega)
        exact ⟨n, i, by omega, h2, h3⟩
    · rintro ⟨j, i, h2, h3, h4⟩
      by_cases e : j = n
      · subst e
        have := hp.2 ⟨i, h3, h4⟩
        omega
      · have := ih.2 ⟨j, i, by omega, h3, h4⟩
        omega

theorem rowInk_full (z : Nat → Bool) (k n : Nat) : (n : Int) ≤ rowSum (fun j => inkOne (z j)) k n ↔ ∀ i, i < n → z (k + i) = true := by
  induction n with
  | zero => simp [rowSum]
  | succ n ih =>
    have hb := rowInk_bounds z k n
    simp only [rowSum]
    constructor
    · intro h i hi
      cases hz : z (k + n)
      · simp only [inkOne, hz] at h hb
        simp at h
        omega
      · by_cases e : i = n
        · exact e ▸ hz
        · refine ih.1 ?_ i (by omega)
          simp only [inkOne, hz, if_true] at h hb ⊢
          omega
    · intro h
      have h1 := ih.2 (fun i hi => h i (by omega))
      have h2 : inkOne (z (k + n)) = 1 := by rw [h n (by omega)]; rfl
      omega

theorem rectInk_full (z : Nat → Bool) (W y x nx n : Nat) : ((nx * n : Nat) : Int) ≤ rectSum (fun j => inkOne (z j)) W y x nx n ↔ ∀ j i, j < n → i < nx → z ((y + j) * W + x + i) = true := by
  induction n with
  | zero => simp [rectSum]
  | succ n ih =>
    have hb := rectInk_bounds z W y x nx n
    have hr := rowInk_bounds z ((y + n) * W + x) nx
    have hp := rowInk_full z ((y + n) * W + x) nx
    simp only [rectSum, Nat.mul_add, Nat.mul_one]
    constructor
    · intro h j i hj hi
      by_cases e : j = n
      · subst e
        exact hp.1 (by omega) i hi
      · exact ih.1 (by omega) j i (by omega) hi
    · intro h
      have h1 := ih.2 (fun j i hj hi => h j i (by omega) hi)
      have h2 := hp.2 (fun i hi => h n i (by omega) hi)
      omega

theorem spread_sum (W H : Nat) (z : Nat → Bool) (r x y : Nat) (hx : x < W) (hy : y < H) : decide (1 ≤ squareSum (fun j => inkOne (z j)) W H r x y) = spreadB W H z r x y := by
  rw [Bool.eq_iff_iff, decide_eq_true_iff, spreadB_iff]
  unfold squareSum
  rw [rectInk_pos]
  constructor
  · rintro ⟨j, i, h1, h2, h3⟩
    exact ⟨x - r + i, y - r + j, by omega, by omega, by omega, by omega, by rw [← Nat.add_assoc]; exact h3⟩
  · rintro ⟨i, j, h1, h2, h3, h4, h5⟩
    exact ⟨j - (y - r), i - (x - r), by omega, by omega, by rw [show y - r + (j - (y - r)) = j by omega, Nat.add_assoc, show x - r + (i - (x - r)) = i by omega]; exact h5⟩

theorem shrink_sum (W H : Nat) (z : Nat → Bool) (r x y : Nat) (hx : x < W) (hy : y < H) : decide ((2 * (r : Int) + 1) * (2 * (r : Int) + 1) ≤ squareSum (fun j => inkOne (z j)) W H r x y) = shrinkB W H z r x y := by
  rw [Bool.eq_iff_iff, decide_eq_true_iff, shrinkB_iff]
  unfold squareSum
  obtain ⟨nx, hnx⟩ : ∃ nx, nx = min (x + r + 1) W - (x - r) := ⟨_, rfl⟩
  obtain ⟨ny, hny⟩ : ∃ ny, ny = min (y + r + 1) H - (y - r) := ⟨_, rfl⟩
  rw [← hnx, ← hny]
  have hb := rectInk_bounds z W (y - r) (x - r) nx ny
  have hf := rectInk_full z W (y - r) (x - r) nx ny
  have hN : (2 * (r : Int) + 1) * (2 * (r : Int) + 1) = (((2 * r + 1) * (2 * r + 1) : Nat) : Int) := by simp [Int.natCast_mul]
  rw [hN]
  constructor
  · intro h
    have hge : (2 * r + 1) * (2 * r + 1) ≤ nx * ny := by omega
    have e1 : nx = 2 * r + 1 := by
      apply Classical.byContradiction
      intro hne
      have h1 := Nat.mul_le_mul (show nx ≤ 2 * r by omega) (show ny ≤ 2 * r + 1 by omega)
      have h2 : (2 * r + 1) * (2 * r + 1) = 2 * r * (2 * r + 1) + (2 * r + 1) := by rw [Nat.add_mul (2 * r) 1, Nat.one_mul]
      omega
    have e2 : ny = 2 * r + 1 := by
      apply Classical.byContradiction
      intro hne
      have h1 := Nat.mul_le_mul (show nx ≤ 2 * r + 1 by omega) (show ny ≤ 2 * r by omega)
      have h2 : (2 * r + 1) * (2 * r + 1) = (2 * r + 1) * (2 * r) + (2 * r + 1) := by rw [Nat.mul_add (2 * r + 1) (2 * r) 1, Nat.mul_one]
      omega
    rw [e1, e2] at hf h
    have hall := hf.1 h
    refine ⟨by omega, fun i j h1 h2 => ?_⟩
    have := hall (j - (y - r)) (i - (x - r)) (by omega) (by omega)
    rw [show y - r + (j - (y - r)) = j by omega, Nat.add_assoc, show x - r + (i - (x - r)) = i by omega] at this
    exact this
  · rintro ⟨h0, h⟩
    have e1 : nx = 2 * r + 1 := by omega
    have e2 : ny = 2 * r + 1 := by omega
    rw [e1, e2] at hf ⊢
    exact hf.2 (fun j i hj hi => by rw [Nat.add_assoc]; exact h _ _ (by omega) (by omega))

/-- Shrunk and spread again there is no more ink; spread and shrunk again there is no less, away from the border. -/
theorem open_less (W H : Nat) (z : Nat → Bool) (r x y : Nat) (hx : x < W) (h : spreadB W H (fun k => shrinkB W H z r (k % W) (k / W)) r x y = true) : z (y * W + x) = true := by
  obtain ⟨i, j, h1, h2, h3, h4, h5⟩ := (spreadB_iff ..).1 h
  have em : (j * W + i) % W = i := by rw [Nat.add_comm, Nat.mul_comm, Nat.add_mul_mod_self_left, Nat.mod_eq_of_lt h1]
  have ed : (j * W + i) / W = j := by rw [Nat.add_comm, Nat.mul_comm, Nat.add_mul_div_left _ _ (by omega), Nat.div_eq_of_lt h1, Nat.zero_add]
  simp only [em, ed] at h5
  exact ((shrinkB_iff ..).1 h5).2 x y (by omega) (by omega)

theorem shut_more (W H : Nat) (z : Nat → Bool) (r x y : Nat) (hx : r ≤ x ∧ x + r < W) (hy : r ≤ y ∧ y + r < H) (h : z (y * W + x) = true) : shrinkB W H (fun k => spreadB W H z r (k % W) (k / W)) r x y = true := by
  refine (shrinkB_iff ..).2 ⟨by omega, fun i j h1 h2 => ?_⟩
  have em : (j * W + i) % W = i := by rw [Nat.add_comm, Nat.mul_comm, Nat.add_mul_mod_self_left, Nat.mod_eq_of_lt (by omega)]
  have ed : (j * W + i) / W = j := by rw [Nat.add_comm, Nat.mul_comm, Nat.add_mul_div_left _ _ (by omega), Nat.div_eq_of_lt (by omega), Nat.zero_add]
  simp only [em, ed]
  exact (spreadB_iff ..).2 ⟨x, y, by omega, by omega, by omega, by omega, h⟩

end Go.Proofs.Ytejhmobpepllcaa
