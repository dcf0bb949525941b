/-
  The contract of the reference's PasteOf, of the closure of MixesMatch that calls it, and the comparison with Paste.
-/
import Derived.Test.YtejhmobpepllcaaPasteR
import Derived.Test.YtejhmobpepllcaaPaste
import Derived.Test.YtejhmobpepllcaaCut
import Derived.Test.YtejhmobpepllcaaSame
namespace Go.Proofs.Ytejhmobpepllcaa
open Go.RowKit
set_option linter.unusedSimpArgs false
set_option linter.unusedVariables false

set_option maxHeartbeats 400000 in
set_option maxRecDepth 100000 in
theorem pasteOf_any (W H Wc Hc g1 o1 c1 g2 o2 c2 : Nat) (x y : Int) (z1 z2 : Nat → Bool) (w : World) (hW : 1 ≤ W ∧ W ≤ 4000) (hH : 1 ≤ H ∧ H ≤ 4000) (hWc : 1 ≤ Wc ∧ Wc ≤ 4000) (hHc : 1 ≤ Hc ∧ Hc ≤ 4000) (hN : W * H ≤ 1048576)
    (hz1 : ∀ k, k < W * H → w.cell? ⟨g1, o1 + k, none⟩ = some (.bool (z1 k))) (hz2 : ∀ k, k < Wc * Hc → w.cell? ⟨g2, o2 + k, none⟩ = some (.bool (z2 k))) :
    Calls Try.prog 58 #[.agg #[.int .i64 W, .int .i64 H, .slice (some ⟨g1, o1, none⟩) (W * H) c1], .agg #[.int .i64 Wc, .int .i64 Hc, .slice (some ⟨g2, o2, none⟩) (Wc * Hc) c2], .int .i64 x, .int .i64 y] w fun e w' =>
      ∃ v, e = .returned (.agg #[.int .i64 W, .int .i64 H, v]) ∧ w'.ownsRow w.heap.size 4 1 v (W * H) ((places W (pasteAt W Wc Hc x y z1 z2) (W * H)).map Value.bool) ∧ Below w.heap.size w w' := by
  have hmf : ∀ (fn : Fn) (first cap : Array Value) (w : World), (Instr.makeFunc fn first cap).run Try.prog w = .ok (.func fn first cap) w := fun _ _ _ _ => rfl
  have H1 := Lib.hid hz1
  have H2 := Lib.hid hz2
  clear hz1 hz2
  go_enter Try.func58, Try.ntmps58
  go_wp2_with fail
  obtain ⟨w1, hw1⟩ : ∃ w1, w1 = ((((w.alloc (.cells #[.int .i64 W, .int .i64 H, .slice (some ⟨g1, o1, none⟩) (W * H) c1] 24)).alloc (.cells #[.int .i64 Wc, .int .i64 Hc, .slice (some ⟨g2, o2, none⟩) (Wc * Hc) c2] 24)).alloc (.cells #[.int .i64 x] 3)).alloc (.cells #[.int .i64 y] 3)).alloc (.cells #[.int .i64 0, .int .i64 0, .slice none 0 0] 24) := ⟨_, rfl⟩
  have B1 : Below w.heap.size w w1 := by rw [hw1]; exact below_alloc (below_alloc (below_alloc (below_alloc (new_below _ _) _) _) _) _
  have q0 : w1.cell? ⟨w.heap.size, 0, none⟩ = some (.int .i64 W) := by rw [hw1]; go_simp
  have q1 : w1.cell? ⟨w.heap.size, 1, none⟩ = some (.int .i64 H) := by rw [hw1]; go_simp
  have q2 : w1.cell? ⟨w.heap.size, 2, none⟩ = some (.slice (some ⟨g1, o1, none⟩) (W * H) c1) := by rw [hw1]; go_simp
  have q3 : w1.cell? ⟨w.heap.size + 1, 0, none⟩ = some (.int .i64 Wc) := by rw [hw1]; go_simp
  have q4 : w1.cell? ⟨w.heap.size + 1, 1, none⟩ = some (.int .i64 Hc) := by rw [hw1]; go_simp
  have q5 : w1.cell? ⟨w.heap.size + 1, 2, none⟩ = some (.slice (some ⟨g2, o2, none⟩) (Wc * Hc) c2) := by rw [hw1]; go_simp
  have q6 : w1.cell? ⟨w.heap.size + 1 + 1, 0, none⟩ = some (.int .i64 x) := by rw [hw1]; go_simp
  have q7 : w1.cell? ⟨w.heap.size + 1 + 1 + 1, 0, none⟩ = some (.int .i64 y) := by rw [hw1]; go_simp
  have qb : w1.heap[w.heap.size + 1 + 1 + 1 + 1]? = some (.cells #[.int .i64 0, .int .i64 0, .slice none 0 0] 24 (0, 0)) := by
    rw [hw1]
    simpa using heap_alloc_new ((((w.alloc (.cells #[.int .i64 W, .int .i64 H, .slice (some ⟨g1, o1, none⟩) (W * H) c1] 24)).alloc (.cells #[.int .i64 Wc, .int .i64 Hc, .slice (some ⟨g2, o2, none⟩) (Wc * Hc) c2] 24)).alloc (.cells #[.int .i64 x] 3)).alloc (.cells #[.int .i64 y] 3)) (.cells #[.int .i64 0, .int .i64 0, .slice none 0 0] 24)
  rw [← hw1]
  clear hw1
  have lt3 := (Array.getElem?_eq_some_iff.1 qb).1
  refine (made_any W H 123 _ (pasteAt W Wc Hc x y z1 z2) w1 hW.1 (by omega) (by omega) (by omega) (Go.Proofs.enters_of Try.func123 (by kernel_rfl) rfl) ?_).mono ?_
  · intro i j wx hi hj hbx
    have hb := below_step B1 hbx
    exact pasteOf1_any W H Wc Hc g1 o1 c1 g2 o2 c2 i j _ _ _ _ x y z1 z2 wx hW hH hWc hHc hi hj (cell_later hbx q6) (cell_later hbx q7) (cell_later hbx q0) (cell_later hbx q1) (cell_later hbx q2) (cell_later hbx q3) (cell_later hbx q4) (cell_later hbx q5) (fun k hk => cell_later hb (H1.out k hk)) (fun k hk => cell_later hb (H2.out k hk))
  · rintro e w5 ⟨v, rfl, hown, hb5⟩
    obtain ⟨j0, j1, j2, r0, r1, r2⟩ := block3 (below_block hb5 qb)
    obtain ⟨va, vn, vc, rfl⟩ := owns_shape hown
    have F := Lib.hid hown
    have G := Lib.hid hb5
    have L := Lib.hid lt3
    clear hown hb5 lt3 q0 q1 q2 q3 q4 q5 q6 q7
    go_wp2_with fail
    refine bodyPost_ret (v := .agg #[.int .i64 W, .int .i64 H, .slice va vn vc]) (by simp [results, Try.results58, go_sem, j0, j1, j2]) rfl ⟨_, rfl, owns_far3 F.out L.out B1.size, below_far3 (below_step B1 G.out) (by omega)⟩

set_option maxRecDepth 100000 in
theorem mixes2_any (W H Wc Hc g1 o1 c1 g2 o2 c2 bb cb xb yb : Nat) (x y : Int) (z1 z2 : Nat → Bool) (w : World) (hW : 1 ≤ W ∧ W ≤ 4000) (hH : 1 ≤ H ∧ H ≤ 4000) (hWc : 1 ≤ Wc ∧ Wc ≤ 4000) (hHc : 1 ≤ Hc ∧ Hc ≤ 4000) (hN : W * H ≤ 1048576)
    (kx : w.cell? ⟨xb, 0, none⟩ = some (.int .i64 x)) (ky : w.cell? ⟨yb, 0, none⟩ = some (.int .i64 y))
    (kb0 : w.cell? ⟨bb, 0, none⟩ = some (.int .i64 W)) (kb1 : w.cell? ⟨bb, 1, none⟩ = some (.int .i64 H)) (kb2 : w.cell? ⟨bb, 2, none⟩ = some (.slice (some ⟨g1, o1, none⟩) (W * H) c1))
    (kc0 : w.cell? ⟨cb, 0, none⟩ = some (.int .i64 Wc)) (kc1 : w.cell? ⟨cb, 1, none⟩ = some (.int .i64 Hc)) (kc2 : w.cell? ⟨cb, 2, none⟩ = some (.slice (some ⟨g2, o2, none⟩) (Wc * Hc) c2))
    (hz1 : ∀ k, k < W * H → w.cell? ⟨g1, o1 + k, none⟩ = some (.bool (z1 k))) (hz2 : ∀ k, k < Wc * Hc → w.cell? ⟨g2, o2 + k, none⟩ = some (.bool (z2 k))) :
    Calls Try.prog 57 #[.pointer (some ⟨bb, 0, none⟩), .pointer (some ⟨cb, 0, none⟩), .pointer (some ⟨xb, 0, none⟩), .pointer (some ⟨yb, 0, none⟩)] w fun e w' =>
      ∃ v, e = .returned v ∧ PageB w' v W H (W * H) (fun k => pasteAt W Wc Hc x y z1 z2 (k % W) (k / W)) ∧ Below w.heap.size w w' := by
  have lb := World.block_lt_of_cell? _ _ kb0
  have lc := World.block_lt_of_cell? _ _ kc0
  have lx := World.block_lt_of_cell? _ _ kx
  have ly := World.block_lt_of_cell? _ _ ky
  simp only at lb lc lx ly
  obtain ⟨w1, hw1⟩ : ∃ w1, w1 = w.alloc (.cells #[.int .i64 0, .int .i64 0, .slice none 0 0] 24) := ⟨_, rfl⟩
  have B1 : Below w.heap.size w w1 := by rw [hw1]; exact new_below _ _
  have qb : w1.heap[w.heap.size]? = some (.cells #[.int .i64 0, .int .i64 0, .slice none 0 0] 24 (0, 0)) := by rw [hw1]; exact heap_alloc_new _ _
  have HK := Lib.hid (pasteOf_any W H Wc Hc g1 o1 c1 g2 o2 c2 x y z1 z2 w1 hW hH hWc hHc hN (fun k hk => cell_later B1 (hz1 k hk)) (fun k hk => cell_later B1 (hz2 k hk)))
  have HW := Lib.hid hw1
  have L := Lib.hid (Array.getElem?_eq_some_iff.1 qb).1
  clear hw1 hz1 hz2
  go_enter Try.func57, Try.ntmps57
  go_wp2_with fail
  rw [← HW.out]
  refine HK.out.mono ?_
  rintro e w5 ⟨v, rfl, hown, hb5⟩
  obtain ⟨j0, j1, j2, r0, r1, r2⟩ := block3 (below_block hb5 qb)
  obtain ⟨g', c', rfl, hgb, hz⟩ := owns_pageB hown (Nat.mul_pos hW.1 hH.1)
  have ZC := Lib.hid hz
  have G := Lib.hid hb5
  clear hown hb5 hz qb kx ky kb0 kb1 kb2 kc0 kc1 kc2
  go_wp2_with fail
  refine bodyPost_ret (v := .agg #[.int .i64 W, .int .i64 H, .slice (some ⟨g', 0, none⟩) (W * H) c']) (by simp [results, Try.results57, go_sem, j0, j1, j2]) rfl ⟨_, rfl, ⟨g', 0, c', rfl, fun j hj => ?_⟩, below_far3 (below_step B1 G.out) (Nat.le_refl _)⟩
  exact cell_far3 (show g' ≠ w.heap.size by have := L.out; omega) (ZC.out j hj)

end Go.Proofs.Ytejhmobpepllcaa
