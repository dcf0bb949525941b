/-
  Contracts of Blank, pages, rounded, Round, Down, noBits, noGray; no conditions but those named.
-/
import Derived.Test.YtejhmobpepllcaaFill
namespace Go.Proofs.Ytejhmobpepllcaa
open Go.RowKit
set_option linter.unusedSimpArgs false
set_option linter.unusedVariables false

theorem block3 {w : World} {b : Nat} {x y z : Value} {t : TypeId} (h : w.heap[b]? = some (.cells #[x, y, z] t (0, 0))) :
    w.cell? ⟨b, 0, none⟩ = some x ∧ w.cell? ⟨b, 1, none⟩ = some y ∧ w.cell? ⟨b, 2, none⟩ = some z ∧ w.frozen? ⟨b, 0, none⟩ = false ∧ w.frozen? ⟨b, 1, none⟩ = false ∧ w.frozen? ⟨b, 2, none⟩ = false :=
  ⟨by rw [cell_of_row w b 0 _ t (0, 0) h]; rfl, by rw [cell_of_row w b 1 _ t (0, 0) h]; rfl, by rw [cell_of_row w b 2 _ t (0, 0) h]; rfl, frozen_of_row w b 0 _ t h, frozen_of_row w b 1 _ t h, frozen_of_row w b 2 _ t h⟩

theorem owns_base {w : World} {base base' : Nat} {e : TypeId} {size : Nat} {v : Value} {n : Nat} {xs : List Value} (h : w.ownsRow base e size v n xs) (hb : base' ≤ base) : w.ownsRow base' e size v n xs := by
  obtain ⟨h1, h2⟩ := h
  refine ⟨h1, ?_⟩
  rcases h2 with h2 | ⟨g, cap, cur, hv, hg, r⟩
  · exact Or.inl h2
  · exact Or.inr ⟨g, cap, cur, hv, Nat.le_trans hb hg, r⟩

theorem info_bool : (Try.prog.info? 4).map (fun i => (i.zero, i.size, i.bytes)) = some (some (.bool false), 1, 1) := by kernel_rfl

theorem rounded_any (a b : Int) (w : World) (h0 : 0 ≤ a) (h1 : a ≤ 1000000000000) (h2 : 1 ≤ b) (h3 : b ≤ 1000000000000) :
    Calls Try.prog 135 #[.int .i64 a, .int .i64 b] w fun r w' => r = .returned (.int .i64 ((2 * a + b) / (2 * b))) ∧ w = w' := by
  go_enter Try.func135, Try.ntmps135
  go_wp2
  go_ret
  exact ⟨rfl, rfl⟩

theorem down_any (a b : Int) (w : World) (h0 : 0 ≤ a) (h1 : a ≤ 10000000000000) (h2 : 1 ≤ b) (h3 : b ≤ 10000000000000) :
    Calls Try.prog 120 #[.int .i64 a, .int .i64 b] w fun r w' => r = .returned (.int .i64 (a / b)) ∧ w = w' := by
  have hq : 0 ≤ a / b := Int.ediv_nonneg h0 (by omega)
  have hm : a / b * b ≤ a := Int.ediv_mul_le a (by omega)
  have hm0 : 0 ≤ a / b * b := Int.mul_nonneg hq (by omega)
  go_enter Try.func120, Try.ntmps120
  go_wp2
  refine wp_loop_rounds 1 ?_
  rw [rounds_succ]
  go_wp2
  go_ret
  exact ⟨rfl, rfl⟩

theorem round_any (a b : Int) (w : World) (h0 : 0 ≤ a) (h1 : a ≤ 1000000000000) (h2 : 1 ≤ b) (h3 : b ≤ 1000000000000) :
    Calls Try.prog 55 #[.int .i64 a, .int .i64 b] w fun r w' => r = .returned (.int .i64 ((2 * a + b) / (2 * b))) ∧ w = w' := by
  go_enter Try.func55, Try.ntmps55
  go_wp2_with (go_at_call 120; refine (down_any _ _ _ (by omega) (by omega) (by omega) (by omega)).mono ?_; rintro e w' ⟨rfl, rfl⟩)
  go_ret
  exact ⟨rfl, rfl⟩

theorem blank_err (a b : Int) (w : World) (h : sizeErr a b ≠ 0) : Calls Try.prog 14 #[.int .i64 a, .int .i64 b] w fun r w' => r = .returned (.tuple #[.agg #[.int .i64 0, .int .i64 0, .slice none 0 0], .int .i64 (sizeErr a b)]) ∧ Below w.heap.size w w' := by
  have h' : (sizeErr a b != 0) = true := by simpa using h
  clear h
  go_enter Try.func14, Try.ntmps14
  go_wp2_with ((go_at_call 100; refine (checkSize_any _ _ _).mono ?_; rintro e w' ⟨rfl, rfl⟩))
  refine bodyPost_ret (v := .tuple #[.agg #[.int .i64 0, .int .i64 0, .slice none 0 0], .int .i64 (sizeErr a b)]) (by simp [results, Try.results14, go_sem]) rfl ⟨rfl, new_below _ _⟩

set_option maxRecDepth 100000 in
theorem blank_ok (a b : Int) (w : World) (h : sizeErr a b = 0) : Calls Try.prog 14 #[.int .i64 a, .int .i64 b] w fun r w' =>
    ∃ (v : Value) (n : Nat), r = .returned (.tuple #[.agg #[.int .i64 a, .int .i64 b, v], .int .i64 0]) ∧ (n : Int) = a * b ∧ w'.ownsRow w.heap.size 4 1 v n (List.replicate n (.bool false)) ∧ Below w.heap.size w w' := by
  obtain ⟨i0, hi, hz0, hz1, hz2⟩ := info_parts info_bool
  obtain ⟨hab, hm0, hm1⟩ := sizeErr_zero h
  obtain ⟨n, hn⟩ := Int.eq_ofNat_of_zero_le hm0
  have hn' : n ≤ 1048576 := by omega
  have HN := Lib.hid hn
  clear hn
  go_enter Try.func14, Try.ntmps14
  go_wp2_with (first | (go_at_call 100; refine (checkSize_any _ _ _).mono ?_; rintro e w' ⟨rfl, rfl⟩) | (at_make; refine wpList_make_full _ rfl _ _ 22 rfl (w.heap.size + 1) 4 i0 (.bool false) 1 Try.underlying22 hi hz0 hz1 _ _ _ _ n rfl rfl HN.out HN.out (by rw [hz2]; omega) (by unfold maxLen; omega) (by simp) ?_))
  intro w1 hown1 hgrow1
  have hb0 := hgrow1.block w.heap.size (by simp) (by simp)
  rw [heap_alloc_new] at hb0
  obtain ⟨q0, q1, q2, r0, r1, r2⟩ := block3 hb0
  clear hb0
  have G := Lib.hid hgrow1
  have O := Lib.hid hown1
  clear hgrow1 hown1
  go_wp2
  refine bodyPost_ret (v := .tuple #[.agg #[.int .i64 a, .int .i64 b, .slice (some ⟨w.heap.size + 1, 0, none⟩) n n], .int .i64 0]) (by simp [results, Try.results14, go_sem, q0, q1, q2]) rfl ⟨_, n, rfl, HN.out.symm, ?_, ?_⟩
  · have O' := O.out
    rw [toList_madeCells_one] at O'
    exact owns_base (ownsRow_setCell_below (ownsRow_setCell_below (ownsRow_setCell_below O' (by simp) _) (by simp) _) (by simp) _) (by omega)
  · exact ((((new_below _ _).grown G.out (by simp) (by simp)).setCell (by simp) _).setCell (by simp) _).setCell (by simp) _

theorem blank_any (a b : Int) (w : World) : Calls Try.prog 14 #[.int .i64 a, .int .i64 b] w fun r w' =>
    ∃ i j sl n c, r = .returned (.tuple #[.agg #[.int .i64 i, .int .i64 j, .slice sl n c], .int .i64 (sizeErr a b)]) ∧ Below w.heap.size w w' ∧
      (sizeErr a b ≠ 0 → i = 0 ∧ j = 0 ∧ sl = none ∧ n = 0 ∧ c = 0) ∧ (sizeErr a b = 0 → i = a ∧ j = b ∧ (n : Int) = a * b ∧ ∃ g, sl = some ⟨g, 0, none⟩ ∧ ∀ k, k < n → w'.cell? ⟨g, 0 + k, none⟩ = some (.bool false)) := by
  by_cases h : sizeErr a b = 0
  · refine (blank_ok a b w h).mono ?_
    rintro e w' ⟨v, n, rfl, hn, hown, hb⟩
    have hz := sizeErr_zero h
    rcases hown.2 with ⟨_, h0⟩ | ⟨g, c, cur, rfl, _⟩
    · have := Int.le_trans (by decide : (1:Int) ≤ 1 * 1) (Int.mul_le_mul hz.1.1 hz.1.2.2.1 (by decide) (by omega))
      omega
    · exact ⟨a, b, _, n, c, by rw [h], hb, fun k => absurd h k, fun _ => ⟨rfl, rfl, hn, g, rfl, fun k hk => by rw [Nat.zero_add, hown.cellAt k (by omega)]; simp [List.getElem?_replicate, hk]⟩⟩
  · refine (blank_err a b w h).mono ?_
    rintro e w' ⟨rfl, hb⟩
    exact ⟨0, 0, none, 0, 0, rfl, hb, fun _ => ⟨rfl, rfl, rfl, rfl, rfl⟩, fun k => absurd k h⟩

theorem pages_any (w : World) : Calls Try.prog 15 #[] w fun r w' => r = .returned (.bool true) ∧ Below w.heap.size w w' := by
  have hs : sizeErr 2 3 = 0 := by decide
  have HB := Lib.hid (blank_ok 2 3 w hs)
  clear hs
  go_enter Try.func15, Try.ntmps15
  go_wp2_with fail
  refine HB.out.mono ?_
  rintro e w1 ⟨v, n, rfl, hn, hown, hb⟩
  obtain rfl : n = 6 := by omega
  rcases hown.2 with ⟨_, h0⟩ | ⟨g, cap, cur, rfl, hg, hgg, _⟩
  · cases h0
  have B := Lib.hid hb
  clear hb hown hn hgg HB
  go_wp2
  go_ret
  exact ⟨rfl, below_alloc B.out _⟩

end Go.Proofs.Ytejhmobpepllcaa
