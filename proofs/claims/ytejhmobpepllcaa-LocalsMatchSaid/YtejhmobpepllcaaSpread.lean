/-
  clean.Spread and clean.Shrink; and alike, where it answers true.
-/
import Derived.Test.YtejhmobpepllcaaSquare
import Derived.Test.YtejhmobpepllcaaSame
namespace Go.Proofs.Ytejhmobpepllcaa
open Go.RowKit
set_option linter.unusedSimpArgs false
set_option linter.unusedVariables false
attribute [local go_sem ↓] Go.wp_at_zero Go.wp_at_succ

theorem spread_badRadius (a b r : Int) (p : Option Addr) (n c : Nat) (w : World) (h : pageErr a b n = 0) (hr : ¬ (0 ≤ r ∧ r ≤ 50)) :
    Calls Try.prog 96 #[.agg #[.int .i64 a, .int .i64 b, .slice p n c], .int .i64 r] w fun e w' => e = .returned (.tuple #[.agg #[.int .i64 0, .int .i64 0, .slice none 0 0], .int .i64 3]) ∧ Below w.heap.size w w' := by
  have HR := Lib.hid hr
  have HP := Lib.hid h
  clear hr h
  go_enter Try.func96, Try.ntmps96
  go_wp2_with fail
  obtain ⟨w1, hw1⟩ : ∃ w1, w1 = ((w.alloc (.cells #[.int .i64 a, .int .i64 b, .slice p n c] 24)).alloc (.cells #[.int .i64 0, .int .i64 0, .slice none 0 0] 24)) := ⟨_, rfl⟩
  have B1 : Below w.heap.size w w1 := by rw [hw1]; exact below_alloc (new_below _ _) _
  have qb : w1.heap[w.heap.size + 1]? = some (.cells #[.int .i64 0, .int .i64 0, .slice none 0 0] 24 (0, 0)) := by
    rw [hw1]
    simpa using heap_alloc_new (w.alloc (.cells #[.int .i64 a, .int .i64 b, .slice p n c] 24)) (.cells #[.int .i64 0, .int .i64 0, .slice none 0 0] 24)
  rw [← hw1]
  clear hw1
  refine (byInk_badRadius a b r _ p n c w1 HP.out HR.out).mono ?_
  rintro e w2 ⟨rfl, hb⟩
  obtain ⟨j0, j1, j2, r0, r1, r2⟩ := block3 (below_block hb qb)
  have hl := (Array.getElem?_eq_some_iff.1 (below_block hb qb)).1
  have G := Lib.hid hb
  have B := Lib.hid B1
  clear hb qb B1
  go_wp2_with fail
  refine bodyPost_ret (v := .tuple #[.agg #[.int .i64 0, .int .i64 0, .slice none 0 0], .int .i64 3]) (by simp [results, Try.results96, go_sem, j0, j1, j2]) rfl ⟨rfl, below_far3 (below_step B.out G.out) (by omega)⟩

theorem shrink_badRadius (a b r : Int) (p : Option Addr) (n c : Nat) (w : World) (h : pageErr a b n = 0) (hr : ¬ (0 ≤ r ∧ r ≤ 50)) :
    Calls Try.prog 97 #[.agg #[.int .i64 a, .int .i64 b, .slice p n c], .int .i64 r] w fun e w' => e = .returned (.tuple #[.agg #[.int .i64 0, .int .i64 0, .slice none 0 0], .int .i64 3]) ∧ Below w.heap.size w w' := by
  have HR := Lib.hid hr
  have HP := Lib.hid h
  clear hr h
  go_enter Try.func97, Try.ntmps97
  go_wp2_with fail
  obtain ⟨w1, hw1⟩ : ∃ w1, w1 = ((w.alloc (.cells #[.int .i64 a, .int .i64 b, .slice p n c] 24)).alloc (.cells #[.int .i64 0, .int .i64 0, .slice none 0 0] 24)) := ⟨_, rfl⟩
  have B1 : Below w.heap.size w w1 := by rw [hw1]; exact below_alloc (new_below _ _) _
  have qb : w1.heap[w.heap.size + 1]? = some (.cells #[.int .i64 0, .int .i64 0, .slice none 0 0] 24 (0, 0)) := by
    rw [hw1]
    simpa using heap_alloc_new (w.alloc (.cells #[.int .i64 a, .int .i64 b, .slice p n c] 24)) (.cells #[.int .i64 0, .int .i64 0, .slice none 0 0] 24)
  rw [← hw1]
  clear hw1
  refine (byInk_badRadius a b r _ p n c w1 HP.out HR.out).mono ?_
  rintro e w2 ⟨rfl, hb⟩
  obtain ⟨j0, j1, j2, r0, r1, r2⟩ := block3 (below_block hb qb)
  have hl := (Array.getElem?_eq_some_iff.1 (below_block hb qb)).1
  have G := Lib.hid hb
  have B := Lib.hid B1
  clear hb qb B1
  go_wp2_with fail
  refine bodyPost_ret (v := .tuple #[.agg #[.int .i64 0, .int .i64 0, .slice none 0 0], .int .i64 3]) (by simp [results, Try.results97, go_sem, j0, j1, j2]) rfl ⟨rfl, below_far3 (below_step B.out G.out) (by omega)⟩

theorem places_cell {W H j : Nat} (hW : 1 ≤ W) (hj : j < W * H) : j % W < W ∧ j / W < H :=
  ⟨Nat.mod_lt _ hW, Nat.div_lt_of_lt_mul hj⟩

set_option maxHeartbeats 400000 in
set_option maxRecDepth 100000 in
theorem spread_ok (W H g o c r : Nat) (z : Nat → Bool) (w : World) (he : sizeErr W H = 0) (hr : r ≤ 50) (hc : ∀ j, j < W * H → w.cell? ⟨g, o + j, none⟩ = some (.bool (z j))) :
    Calls Try.prog 96 #[.agg #[.int .i64 W, .int .i64 H, .slice (some ⟨g, o, none⟩) (W * H) c], .int .i64 r] w fun e w' =>
      ∃ g' c', e = .returned (.tuple #[.agg #[.int .i64 W, .int .i64 H, .slice (some ⟨g', 0, none⟩) (W * H) c'], .int .i64 0]) ∧ (∀ j, j < W * H → w'.cell? ⟨g', 0 + j, none⟩ = some (.bool (spreadB W H z r (j % W) (j / W)))) ∧ Below w.heap.size w w' := by
  obtain ⟨⟨a1, a2, a3, a4⟩, a5, a6⟩ := sizeErr_zero he
  have HE := Lib.hid he
  have HC := Lib.hid hc
  clear hc he a5 a6
  go_enter Try.func96, Try.ntmps96
  go_wp2_with fail
  obtain ⟨w1, hw1⟩ : ∃ w1, w1 = ((w.alloc (.cells #[.int .i64 W, .int .i64 H, .slice (some ⟨g, o, none⟩) (W * H) c] 24)).alloc (.cells #[.int .i64 0, .int .i64 0, .slice none 0 0] 24)) := ⟨_, rfl⟩
  have B1 : Below w.heap.size w w1 := by rw [hw1]; exact below_alloc (new_below _ _) _
  have qb : w1.heap[w.heap.size + 1]? = some (.cells #[.int .i64 0, .int .i64 0, .slice none 0 0] 24 (0, 0)) := by
    rw [hw1]
    simpa using heap_alloc_new (w.alloc (.cells #[.int .i64 W, .int .i64 H, .slice (some ⟨g, o, none⟩) (W * H) c] 24)) (.cells #[.int .i64 0, .int .i64 0, .slice none 0 0] 24)
  rw [← hw1]
  clear hw1
  refine (byInk_ok W H g o c r 1 z w1 HE.out hr (fun j hj => cell_later B1 (HC.out j hj))).mono ?_
  rintro e w2 ⟨v, rfl, hown, hb⟩
  obtain ⟨j0, j1, j2, r0, r1, r2⟩ := block3 (below_block hb qb)
  have hl := (Array.getElem?_eq_some_iff.1 qb).1
  obtain ⟨g', c', rfl, hg', hz⟩ := owns_pageB hown (Nat.mul_pos (by omega) (by omega))
  have F := Lib.hid hz
  have G := Lib.hid hb
  have B := Lib.hid B1
  have L := Lib.hid hl
  clear hb qb B1 hown hz hl
  go_wp2_with fail
  refine bodyPost_ret (v := .tuple #[.agg #[.int .i64 W, .int .i64 H, .slice (some ⟨g', 0, none⟩) (W * H) c'], .int .i64 0]) (by simp [results, Try.results96, go_sem, j0, j1, j2]) rfl ?_
  have hl := L.out
  refine ⟨g', c', rfl, fun j hj => ?_, below_far3 (below_step B.out G.out) (by omega)⟩
  obtain ⟨p1, p2⟩ := places_cell (show 1 ≤ W by omega) hj
  rw [← spread_sum W H z r _ _ p1 p2]
  exact cell_far3 (by simp; omega) (F.out j hj)

set_option maxHeartbeats 400000 in
set_option maxRecDepth 100000 in
theorem shrink_ok (W H g o c r : Nat) (z : Nat → Bool) (w : World) (he : sizeErr W H = 0) (hr : r ≤ 50) (hc : ∀ j, j < W * H → w.cell? ⟨g, o + j, none⟩ = some (.bool (z j))) :
    Calls Try.prog 97 #[.agg #[.int .i64 W, .int .i64 H, .slice (some ⟨g, o, none⟩) (W * H) c], .int .i64 r] w fun e w' =>
      ∃ g' c', e = .returned (.tuple #[.agg #[.int .i64 W, .int .i64 H, .slice (some ⟨g', 0, none⟩) (W * H) c'], .int .i64 0]) ∧ (∀ j, j < W * H → w'.cell? ⟨g', 0 + j, none⟩ = some (.bool (shrinkB W H z r (j % W) (j / W)))) ∧ Below w.heap.size w w' := by
  obtain ⟨⟨a1, a2, a3, a4⟩, a5, a6⟩ := sizeErr_zero he
  have HE := Lib.hid he
  have HC := Lib.hid hc
  have hm := Nat.mul_le_mul (show 2 * r + 1 ≤ 101 by omega) (show 2 * r + 1 ≤ 101 by omega)
  have e1 : (0 : Int) ≤ (2 * (r : Int) + 1) * (2 * (r : Int) + 1) := Int.mul_nonneg (by omega) (by omega)
  have e2 : (2 * (r : Int) + 1) * (2 * (r : Int) + 1) ≤ 10201 := by
    have : (2 * (r : Int) + 1) * (2 * (r : Int) + 1) = (((2 * r + 1) * (2 * r + 1) : Nat) : Int) := by simp [Int.natCast_mul]
    omega
  clear hc he a5 a6 hm
  go_enter Try.func97, Try.ntmps97
  go_wp2_with fail
  obtain ⟨w1, hw1⟩ : ∃ w1, w1 = ((w.alloc (.cells #[.int .i64 W, .int .i64 H, .slice (some ⟨g, o, none⟩) (W * H) c] 24)).alloc (.cells #[.int .i64 0, .int .i64 0, .slice none 0 0] 24)) := ⟨_, rfl⟩
  have B1 : Below w.heap.size w w1 := by rw [hw1]; exact below_alloc (new_below _ _) _
  have qb : w1.heap[w.heap.size + 1]? = some (.cells #[.int .i64 0, .int .i64 0, .slice none 0 0] 24 (0, 0)) := by
    rw [hw1]
    simpa using heap_alloc_new (w.alloc (.cells #[.int .i64 W, .int .i64 H, .slice (some ⟨g, o, none⟩) (W * H) c] 24)) (.cells #[.int .i64 0, .int .i64 0, .slice none 0 0] 24)
  rw [← hw1]
  clear hw1
  refine (byInk_ok W H g o c r ((2 * (r : Int) + 1) * (2 * (r : Int) + 1)) z w1 HE.out hr (fun j hj => cell_later B1 (HC.out j hj))).mono ?_
  rintro e w2 ⟨v, rfl, hown, hb⟩
  obtain ⟨j0, j1, j2, r0, r1, r2⟩ := block3 (below_block hb qb)
  have hl := (Array.getElem?_eq_some_iff.1 qb).1
  obtain ⟨g', c', rfl, hg', hz⟩ := owns_pageB hown (Nat.mul_pos (by omega) (by omega))
  have F := Lib.hid hz
  have G := Lib.hid hb
  have B := Lib.hid B1
  have L := Lib.hid hl
  clear hb qb B1 hown hz hl
  go_wp2_with fail
  refine bodyPost_ret (v := .tuple #[.agg #[.int .i64 W, .int .i64 H, .slice (some ⟨g', 0, none⟩) (W * H) c'], .int .i64 0]) (by simp [results, Try.results97, go_sem, j0, j1, j2]) rfl ?_
  have hl := L.out
  refine ⟨g', c', rfl, fun j hj => ?_, below_far3 (below_step B.out G.out) (by omega)⟩
  obtain ⟨p1, p2⟩ := places_cell (show 1 ≤ W by omega) hj
  rw [← shrink_sum W H z r _ _ p1 p2]
  exact cell_far3 (by simp; omega) (F.out j hj)

theorem alike_err (e1 : Int) (a b : Int) (s : Option Addr) (n c : Nat) (w : World) (h : e1 ≠ 0) :
    Calls Try.prog 85 #[.agg #[.int .i64 0, .int .i64 0, .slice none 0 0], .int .i64 e1, .agg #[.int .i64 a, .int .i64 b, .slice s n c], .int .i64 e1] w fun e w' => e = .returned (.bool true) ∧ Below w.heap.size w w' := by
  have h' : (e1 != 0) = true := by simpa using h
  clear h
  go_enter Try.func85, Try.ntmps85
  go_wp2
  go_ret
  exact ⟨rfl, below_alloc (new_below _ _) _⟩

theorem alike_ok (W H : Int) (g1 o1 g2 o2 n c1 c2 : Nat) (z : Nat → Bool) (w : World) (hn : n ≤ 100000000)
    (h1 : ∀ j, j < n → w.cell? ⟨g1, o1 + j, none⟩ = some (.bool (z j))) (h2 : ∀ j, j < n → w.cell? ⟨g2, o2 + j, none⟩ = some (.bool (z j))) :
    Calls Try.prog 85 #[.agg #[.int .i64 W, .int .i64 H, .slice (some ⟨g1, o1, none⟩) n c1], .int .i64 0, .agg #[.int .i64 W, .int .i64 H, .slice (some ⟨g2, o2, none⟩) n c2], .int .i64 0] w fun e w' => e = .returned (.bool true) ∧ Below w.heap.size w w' := by
  have H1 := Lib.hid h1
  have H2 := Lib.hid h2
  clear h1 h2
  go_enter Try.func85, Try.ntmps85
  go_wp2_with fail
  have B1 := below_alloc (new_below w (.cells #[.int .i64 W, .int .i64 H, .slice (some ⟨g1, o1, none⟩) n c1] 24)) (.cells #[.int .i64 W, .int .i64 H, .slice (some ⟨g2, o2, none⟩) n c2] 24)
  refine (sameBits_true W H g1 o1 g2 o2 n c1 c2 z _ hn (fun j hj => cell_later B1 (H1.out j hj)) (fun j hj => cell_later B1 (H2.out j hj))).mono ?_
  rintro e w1 ⟨rfl, hb⟩
  go_wp2_with fail
  go_ret
  exact ⟨rfl, below_step B1 hb⟩

end Go.Proofs.Ytejhmobpepllcaa
