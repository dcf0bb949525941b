/-
  Contracts of Blank and pages; no conditions but those named.
-/
import Derived.Test.YtejhmobpepllcaaDoorBase
namespace Go.Proofs.YtejhmobpepllcaaDoor
open Go.RowKit
set_option linter.unusedSimpArgs false
set_option linter.unusedVariables false

theorem blank_err (a b : Int) (w : World) (h : sizeErr a b ≠ 0) : Calls Tryd.prog 26 #[.int .i64 a, .int .i64 b] w fun r w' => r = .returned (.tuple #[.agg #[.int .i64 0, .int .i64 0, .slice none 0 0], .int .i64 (sizeErr a b)]) ∧ Below w.heap.size w w' := by
  have h' : (sizeErr a b != 0) = true := by simpa using h
  clear h
  go_enter Tryd.func26, Tryd.ntmps26
  go_wp2_with ((go_at_call 59; refine (checkSize_any _ _ _).mono ?_; rintro e w' ⟨rfl, rfl⟩))
  refine bodyPost_ret (v := .tuple #[.agg #[.int .i64 0, .int .i64 0, .slice none 0 0], .int .i64 (sizeErr a b)]) (by simp [results, Tryd.results26, go_sem]) rfl ⟨rfl, new_below _ _⟩

set_option maxRecDepth 100000 in
theorem blank_ok (a b : Int) (w : World) (h : sizeErr a b = 0) : Calls Tryd.prog 26 #[.int .i64 a, .int .i64 b] w fun r w' =>
    ∃ (v : Value) (n : Nat), r = .returned (.tuple #[.agg #[.int .i64 a, .int .i64 b, v], .int .i64 0]) ∧ (n : Int) = a * b ∧ w'.ownsRow w.heap.size 4 1 v n (List.replicate n (.bool false)) ∧ Below w.heap.size w w' := by
  obtain ⟨i0, hi, hz0, hz1, hz2⟩ := info_parts info_bool
  obtain ⟨hab, hm0, hm1⟩ := sizeErr_zero h
  obtain ⟨n, hn⟩ := Int.eq_ofNat_of_zero_le hm0
  have hn' : n ≤ 1048576 := by omega
  have HN := Lib.hid hn
  clear hn
  go_enter Tryd.func26, Tryd.ntmps26
  go_wp2_with (first | (go_at_call 59; refine (checkSize_any _ _ _).mono ?_; rintro e w' ⟨rfl, rfl⟩) | (at_make; refine wpList_make_full _ rfl _ _ 22 rfl (w.heap.size + 1) 4 i0 (.bool false) 1 Tryd.underlying22 hi hz0 hz1 _ _ _ _ n rfl rfl HN.out HN.out (by rw [hz2]; omega) (by unfold maxLen; omega) (by simp) ?_))
  intro w1 hown1 hgrow1
  have hb0 := hgrow1.block w.heap.size (by simp) (by simp)
  rw [heap_alloc_new] at hb0
  obtain ⟨q0, q1, q2, r0, r1, r2⟩ := block3 hb0
  clear hb0
  have G := Lib.hid hgrow1
  have O := Lib.hid hown1
  clear hgrow1 hown1
  go_wp2
  refine bodyPost_ret (v := .tuple #[.agg #[.int .i64 a, .int .i64 b, .slice (some ⟨w.heap.size + 1, 0, none⟩) n n], .int .i64 0]) (by simp [results, Tryd.results26, go_sem, q0, q1, q2]) rfl ⟨_, n, rfl, HN.out.symm, ?_, ?_⟩
  · have O' := O.out
    rw [toList_madeCells_one] at O'
    exact owns_base (ownsRow_setCell_below (ownsRow_setCell_below (ownsRow_setCell_below O' (by simp) _) (by simp) _) (by simp) _) (by omega)
  · exact ((((new_below _ _).grown G.out (by simp) (by simp)).setCell (by simp) _).setCell (by simp) _).setCell (by simp) _

theorem blank_any (a b : Int) (w : World) : Calls Tryd.prog 26 #[.int .i64 a, .int .i64 b] w fun r w' =>
    ∃ i j sl n c, r = .returned (.tuple #[.agg #[.int .i64 i, .int .i64 j, .slice sl n c], .int .i64 (sizeErr a b)]) ∧ Below w.heap.size w w' ∧
      (sizeErr a b ≠ 0 → i = 0 ∧ j = 0 ∧ sl = none ∧ n = 0 ∧ c = 0) ∧ (sizeErr a b = 0 → i = a ∧ j = b ∧ (n : Int) = a * b ∧ ∃ g, sl = some ⟨g, 0, none⟩ ∧ ∀ k, k < n → w'.cell? ⟨g, 0 + k, none⟩ = some (.bool false)) := by
  by_cases h : sizeErr a b = 0
  · refine (blank_ok a b w h).mono ?_
    rintro e w' ⟨v, n, rfl, hn, hown, hb⟩
    have hz := sizeErr_zero h
    rcases hown.2 with ⟨_, h0⟩ | ⟨g, c, cur, rfl, _⟩
    · have := Int.le_trans (by decide : (1:Int) ≤ 1 * 1) (Int.mul_le_mul hz.1.1 hz.1.2.2.1 (by decide) (by omega))
      omega
    · exact ⟨a, b, _, n, c, by rw [h], hb, fun k => absurd h k, fun _ => ⟨rfl, rfl, hn, g, rfl, fun k hk => by rw [Nat.zero_add, hown.cellAt k (by omega)]; simp [List.getElem?_replicate, hk]⟩⟩
  · refine (blank_err a b w h).mono ?_
    rintro e w' ⟨rfl, hb⟩
    exact ⟨0, 0, none, 0, 0, rfl, hb, fun _ => ⟨rfl, rfl, rfl, rfl, rfl⟩, fun k => absurd k h⟩

theorem pages_any (w : World) : Calls Tryd.prog 9 #[] w fun r w' => r = .returned (.bool true) ∧ Below w.heap.size w w' := by
  have hs : sizeErr 2 3 = 0 := by decide
  have HB := Lib.hid (blank_ok 2 3 w hs)
  clear hs
  go_enter Tryd.func9, Tryd.ntmps9
  go_wp2_with fail
  refine HB.out.mono ?_
  rintro e w1 ⟨v, n, rfl, hn, hown, hb⟩
  obtain rfl : n = 6 := by omega
  rcases hown.2 with ⟨_, h0⟩ | ⟨g, cap, cur, rfl, hg, hgg, _⟩
  · cases h0
  have B := Lib.hid hb
  clear hb hown hn hgg HB
  go_wp2
  go_ret
  exact ⟨rfl, below_alloc B.out _⟩

end Go.Proofs.YtejhmobpepllcaaDoor
