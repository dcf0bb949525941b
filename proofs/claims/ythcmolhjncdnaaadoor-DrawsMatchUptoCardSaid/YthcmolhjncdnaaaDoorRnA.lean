/-
  Runs of a row of pixels, and the row of its runs, in plain words.
-/
import Derived.Test.YthcmolhjncdnaaaDoorFrame
namespace Go.Proofs.YthcmolhjncdnaaaDoor
set_option linter.unusedSimpArgs false
set_option linter.unusedVariables false

/-- The pixel ahead of place k; ahead of the first one stands no ink. -/
def lastB (z : Nat → Bool) : Nat → Bool
  | 0 => false
  | k + 1 => z k
/-- The runs of the first k pixels: those that are closed, and the last one. -/
def rnS (z : Nat → Bool) : Nat → List Nat × Nat
  | 0 => ([], 0)
  | k + 1 => if z k = lastB z k then ((rnS z k).1, (rnS z k).2 + 1) else ((rnS z k).1 ++ [(rnS z k).2], 1)
def rnL (z : Nat → Bool) (k : Nat) : List Nat := (rnS z k).1 ++ [(rnS z k).2]
/-- The runs of a row of n pixels: an empty one has none. -/
def runsL (z : Nat → Bool) (n : Nat) : List Nat := if n = 0 then [] else rnL z n
def intOfs (l : List Nat) (i : Nat) : Int := ((l.getD i 0 : Nat) : Int)

/-- The row of the first i runs. -/
def frRow (L : Nat → Int) : Nat → List Bool
  | 0 => []
  | i + 1 => frRow L i ++ List.replicate (L i).toNat (decide (i % 2 = 1))
/-- The first i runs are neither too short nor, with those ahead, too long. -/
def frGood (L : Nat → Int) (W i : Nat) : Prop := ∀ j, j < i → ((min j 1 : Nat) : Int) ≤ L j ∧ L j ≤ (W : Int) - ((frRow L j).length : Nat)
open Classical in
noncomputable def frErr (L : Nat → Int) (m : Nat) (w : Int) : Int := if w > 4000 then 4 else if w < 0 then 3 else if frGood L w.toNat m ∧ (frRow L m).length = w.toNat then 0 else 2
noncomputable def frOut (L : Nat → Int) (m : Nat) (w : Int) : List Bool := if frErr L m w = 0 then frRow L m else []

theorem frRow_congr {L M : Nat → Int} {i : Nat} (h : ∀ j, j < i → L j = M j) : frRow L i = frRow M i := by
  induction i with
  | zero => rfl
  | succ i ih => rw [frRow, frRow, ih (fun j hj => h j (by omega)), h i (by omega)]
theorem frRow_mono (L : Nat → Int) {i j : Nat} (h : i ≤ j) : (frRow L i).length ≤ (frRow L j).length := by
  induction h with
  | refl => exact Nat.le_refl _
  | step h ih => rw [frRow, List.length_append]; omega
theorem frRow_le {L : Nat → Int} {W i : Nat} (h : frGood L W i) : (frRow L i).length ≤ W := by
  cases i with
  | zero => simp [frRow]
  | succ i =>
    have := h i (by omega)
    rw [frRow, List.length_append, List.length_replicate]
    omega
theorem frGood_congr {L M : Nat → Int} {W i : Nat} (h : ∀ j, j < i → L j = M j) (hg : frGood L W i) : frGood M W i := by
  intro j hj
  rw [← h j hj, ← frRow_congr (L := L) (M := M) (i := j) (fun k hk => h k (by omega))]
  exact hg j hj
theorem frGood_succ {L : Nat → Int} {W i : Nat} (h : frGood L W i) (h1 : ((min i 1 : Nat) : Int) ≤ L i) (h2 : L i ≤ (W : Int) - ((frRow L i).length : Nat)) : frGood L W (i + 1) := by
  intro j hj
  by_cases e : j = i
  · subst e; exact ⟨h1, h2⟩
  · exact h j (by omega)
theorem frErr_bad {L : Nat → Int} {m i : Nat} {w : Int} (h1 : ¬ w > 4000) (h2 : ¬ w < 0) (hi : i < m) (h : ¬ (((min i 1 : Nat) : Int) ≤ L i ∧ L i ≤ (w.toNat : Int) - ((frRow L i).length : Nat))) : frErr L m w = 2 := by
  unfold frErr
  rw [if_neg h1, if_neg h2, if_neg (fun k => h (k.1 i hi))]
theorem frErr_long {L : Nat → Int} {m : Nat} {w : Int} (h1 : ¬ w > 4000) (h2 : ¬ w < 0) (h : (frRow L m).length ≠ w.toNat) : frErr L m w = 2 := by
  unfold frErr
  rw [if_neg h1, if_neg h2, if_neg (fun k => h k.2)]
theorem frErr_ok {L : Nat → Int} {m : Nat} {w : Int} (h1 : ¬ w > 4000) (h2 : ¬ w < 0) (h : frGood L w.toNat m) (hl : (frRow L m).length = w.toNat) : frErr L m w = 0 := by
  unfold frErr
  rw [if_neg h1, if_neg h2, if_pos ⟨h, hl⟩]

theorem rn_snoc (a : List Nat) (x : Nat) : frRow (intOfs (a ++ [x])) (a.length + 1) = frRow (intOfs a) a.length ++ List.replicate x (decide (a.length % 2 = 1)) := by
  rw [frRow, frRow_congr (L := intOfs (a ++ [x])) (M := intOfs a) (i := a.length) (fun j hj => by simp [intOfs, List.getD, List.getElem?_append_left hj])]
  simp [intOfs, List.getD]

theorem rn_row (z : Nat → Bool) (k : Nat) :
    frRow (intOfs (rnS z k).1) (rnS z k).1.length ++ List.replicate (rnS z k).2 (decide ((rnS z k).1.length % 2 = 1)) = (List.range k).map z ∧ decide ((rnS z k).1.length % 2 = 1) = lastB z k ∧
    (∀ j, 1 ≤ j → j < (rnS z k).1.length → 1 ≤ (rnS z k).1.getD j 0) ∧ (1 ≤ (rnS z k).1.length → 1 ≤ (rnS z k).2) ∧ (rnS z k).1.length ≤ k ∧ (rnS z k).2 ≤ k ∧ ∀ x, x ∈ (rnS z k).1 → x ≤ k := by
  induction k with
  | zero => simp [rnS, frRow, lastB]
  | succ k ih =>
    obtain ⟨i1, i2, i3, i4, i5, i6, i7⟩ := ih
    rw [rnS]
    by_cases h : z k = lastB z k
    · rw [if_pos h]
      refine ⟨?_, by rw [i2]; exact h.symm, i3, fun h => by have := i4 h; simp only; omega, by simp only; omega, by simp only; omega, fun x hx => by have := i7 x hx; omega⟩
      rw [List.replicate_succ', ← List.append_assoc, i1, List.range_succ, List.map_append, i2, ← h]
      rfl
    · rw [if_neg h]
      simp only [List.length_append, List.length_singleton]
      have e2 : decide (((rnS z k).1.length + 1) % 2 = 1) = z k := by
        have hz : z k = !(lastB z k) := by revert h; cases z k <;> cases lastB z k <;> simp
        rw [hz, ← i2]
        by_cases hm : (rnS z k).1.length % 2 = 1
        · rw [decide_eq_true hm, decide_eq_false (by omega)]; rfl
        · rw [decide_eq_false hm, decide_eq_true (by omega)]; rfl
      refine ⟨?_, e2, fun j h1 h2 => ?_, fun _ => Nat.le_refl 1, by omega, by omega, fun x hx => ?_⟩
      · rw [rn_snoc, i1, e2, List.range_succ, List.map_append]
        rfl
      · by_cases e : j = (rnS z k).1.length
        · subst e
          have := i4 h1
          simpa [List.getD] using this
        · have := i3 j h1 (by omega)
          simpa [List.getD, List.getElem?_append_left (show j < (rnS z k).1.length by omega)] using this
      · rcases List.mem_append.1 hx with hx | hx
        · have := i7 x hx; omega
        · have : x = (rnS z k).2 := by simpa using hx
          omega

theorem rnL_length (z : Nat → Bool) (k : Nat) : (rnL z k).length = (rnS z k).1.length + 1 := by simp [rnL]
theorem rnL_row (z : Nat → Bool) (k : Nat) : frRow (intOfs (rnL z k)) (rnL z k).length = (List.range k).map z := by
  rw [rnL_length, rnL, rn_snoc]
  exact (rn_row z k).1
theorem rnL_good (z : Nat → Bool) (k : Nat) : frGood (intOfs (rnL z k)) k (rnL z k).length := by
  intro j hj
  have h1 := frRow_mono (intOfs (rnL z k)) (show j + 1 ≤ (rnL z k).length by omega)
  rw [rnL_row, frRow, List.length_append, List.length_replicate, List.length_map, List.length_range] at h1
  obtain ⟨_, _, i3, i4, _⟩ := rn_row z k
  have h0 : 0 ≤ intOfs (rnL z k) j := by unfold intOfs; omega
  refine ⟨?_, by omega⟩
  by_cases hj0 : j = 0
  · subst hj0; simpa using h0
  · rw [rnL_length] at hj
    have : 1 ≤ (rnL z k).getD j 0 := by
      unfold rnL
      by_cases e : j = (rnS z k).1.length
      · subst e
        have := i4 (by omega)
        simpa [List.getD] using this
      · have := i3 j (by omega) (by omega)
        simpa [List.getD, List.getElem?_append_left (show j < (rnS z k).1.length by omega)] using this
    unfold intOfs
    omega

theorem runs_from (z : Nat → Bool) (n : Nat) (hn : n ≤ 4000) : frErr (intOfs (runsL z n)) (runsL z n).length n = 0 ∧ frOut (intOfs (runsL z n)) (runsL z n).length n = (List.range n).map z := by
  have key : frErr (intOfs (runsL z n)) (runsL z n).length n = 0 ∧ frRow (intOfs (runsL z n)) (runsL z n).length = (List.range n).map z := by
    unfold runsL
    by_cases h : n = 0
    · subst h
      rw [if_pos rfl]
      exact ⟨frErr_ok (by omega) (by omega) (fun j hj => by simp at hj) (by simp [frRow]), by simp [frRow]⟩
    · rw [if_neg h]
      exact ⟨frErr_ok (by omega) (by omega) (by simpa using rnL_good z n) (by rw [rnL_row]; simp), rnL_row z n⟩
  exact ⟨key.1, by unfold frOut; rw [if_pos key.1]; exact key.2⟩

end Go.Proofs.YthcmolhjncdnaaaDoor
