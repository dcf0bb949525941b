/-
  The closures of CutsMatch, and the comparisons of what was cut with what is wanted.
-/
import Derived.Test.YtejhmobpepllcaaCutsA
namespace Go.Proofs.Ytejhmobpepllcaa
open Go.RowKit
set_option linter.unusedSimpArgs false
set_option linter.unusedVariables false

set_option maxRecDepth 100000 in
theorem cuts1_any (W H X Y bw bh pb xb g o n c : Nat) (z : Nat → Bool) (w : World) (hW : W ≤ 4000) (hH : H ≤ 4000) (hX : X + bw ≤ W) (hY : Y + bh ≤ H) (hb1 : 1 ≤ bw) (hb2 : 1 ≤ bh) (hn : n = W * H) (hN : n ≤ 1048576)
    (hc : ∀ j, j < n → w.cell? ⟨g, o + j, none⟩ = some (.bool (z j)))
    (c0 : w.cell? ⟨pb, 0, none⟩ = some (.int .i64 W)) (c1 : w.cell? ⟨pb, 1, none⟩ = some (.int .i64 H)) (c2 : w.cell? ⟨pb, 2, none⟩ = some (.slice (some ⟨g, o, none⟩) n c))
    (d0 : w.cell? ⟨xb, 0, none⟩ = some (.int .i64 X)) (d1 : w.cell? ⟨xb, 1, none⟩ = some (.int .i64 Y)) (d2 : w.cell? ⟨xb, 2, none⟩ = some (.int .i64 bw)) (d3 : w.cell? ⟨xb, 3, none⟩ = some (.int .i64 bh)) :
    Calls Try.prog 28 #[.pointer (some ⟨pb, 0, none⟩), .pointer (some ⟨xb, 0, none⟩)] w fun e w' =>
      ∃ v, e = .returned v ∧ PageB w' v bw bh (bw * bh) (fun j => z ((Y + j / bw) * W + X + j % bw)) ∧ Below w.heap.size w w' := by
  have lp := World.block_lt_of_cell? _ _ c0
  have lx := World.block_lt_of_cell? _ _ d0
  simp only at lp lx
  obtain ⟨w1, hw1⟩ : ∃ w1, w1 = w.alloc (.cells #[.int .i64 0, .int .i64 0, .slice none 0 0] 24) := ⟨_, rfl⟩
  have B1 : Below w.heap.size w w1 := by rw [hw1]; exact new_below _ _
  have qb : w1.heap[w.heap.size]? = some (.cells #[.int .i64 0, .int .i64 0, .slice none 0 0] 24 (0, 0)) := by rw [hw1]; exact heap_alloc_new _ _
  have HK := Lib.hid (cutOf_any W H X Y bw bh g o n c z w1 hW hH hX hY hb1 hb2 hn hN (fun j hj => cell_later B1 (hc j hj)))
  have HW := Lib.hid hw1
  have L := Lib.hid (Array.getElem?_eq_some_iff.1 qb).1
  have HN := Lib.hid hn
  clear hw1 hc hn
  go_enter Try.func28, Try.ntmps28
  go_wp2_with fail
  rw [← HW.out]
  refine HK.out.mono ?_
  rintro e w5 ⟨v, rfl, hown, hb5⟩
  obtain ⟨j0, j1, j2, r0, r1, r2⟩ := block3 (below_block hb5 qb)
  obtain ⟨g', c', rfl, _, hz⟩ := owns_pageB hown (Nat.mul_pos hb1 hb2)
  have hgb := (hown.lt g' rfl).1
  have ZC := Lib.hid hz
  have G := Lib.hid hb5
  clear hown hb5 hz qb c0 c1 c2 d0 d1 d2 d3
  go_wp2_with fail
  refine bodyPost_ret (v := .agg #[.int .i64 bw, .int .i64 bh, .slice (some ⟨g', 0, none⟩) (bw * bh) c']) (by simp [results, Try.results28, go_sem, j0, j1, j2]) rfl ⟨_, rfl, ⟨g', 0, c', rfl, fun j hj => ?_⟩, below_far3 (below_step B1 G.out) (Nat.le_refl _)⟩
  exact cell_far3 (show g' ≠ w.heap.size by have := L.out; omega) (ZC.out j hj)

set_option maxRecDepth 100000 in
theorem cuts2_any (W H X Y bw bh x y pb xb g o n c : Nat) (q : Int) (w : World) (hW : W ≤ 4000) (hH : H ≤ 4000) (hX : X + bw ≤ W) (hY : Y + bh ≤ H) (hx : x < bw) (hy : y < bh) (hn : n = W * H)
    (c0 : w.cell? ⟨pb, 0, none⟩ = some (.int .i64 W)) (c1 : w.cell? ⟨pb, 2, none⟩ = some (.slice (some ⟨g, o, none⟩) n c)) (c2 : w.cell? ⟨xb, 0, none⟩ = some (.int .i64 X)) (c3 : w.cell? ⟨xb, 1, none⟩ = some (.int .i64 Y))
    (hc : w.cell? ⟨g, o + ((Y + y) * W + X + x), none⟩ = some (.int .u8 q)) :
    Calls Try.prog 34 #[.int .i64 x, .int .i64 y, .pointer (some ⟨pb, 0, none⟩), .pointer (some ⟨xb, 0, none⟩)] w fun e w' => e = .returned (.int .u8 q) ∧ w = w' := by
  have hlt := in_page_lt hX hY hx hy
  rw [← hn] at hlt
  have m0 : (0 : Int) ≤ ((Y : Int) + (y : Int)) * (W : Int) := Int.mul_nonneg (by omega) (by omega)
  have m1 : ((Y : Int) + (y : Int)) * (W : Int) + (X : Int) + (x : Int) < (n : Int) := by
    have : (((Y + y) * W + X + x : Nat) : Int) < (n : Int) := by omega
    simpa [Int.natCast_mul] using this
  have m2 : n ≤ 16000000 := by rw [hn]; exact Nat.mul_le_mul hW hH
  clear hlt hn
  go_enter Try.func34, Try.ntmps34
  go_wp2
  go_ret
  exact ⟨rfl, rfl⟩

/-- What was cut is what is wanted. -/
theorem bitsIs_cut (a b X Y bw bh i j : Int) (sl s : Option Addr) (n' c' n c pb xb B : Nat) (z : Nat → Bool) (w : World) (hI : CutIs a b n X Y bw bh z B w i j sl n' c') (hs : IsBools w s n c z)
    (c0 : w.cell? ⟨pb, 0, none⟩ = some (.int .i64 a)) (c1 : w.cell? ⟨pb, 1, none⟩ = some (.int .i64 b)) (c2 : w.cell? ⟨pb, 2, none⟩ = some (.slice s n c))
    (d0 : w.cell? ⟨xb, 0, none⟩ = some (.int .i64 X)) (d1 : w.cell? ⟨xb, 1, none⟩ = some (.int .i64 Y)) (d2 : w.cell? ⟨xb, 2, none⟩ = some (.int .i64 bw)) (d3 : w.cell? ⟨xb, 3, none⟩ = some (.int .i64 bh)) :
    Calls Try.prog 24 #[.agg #[.int .i64 i, .int .i64 j, .slice sl n' c'], .int .i64 (cutErr a b n X Y bw bh), .int .i64 (cutErr a b n X Y bw bh), .func (.func 28) #[] #[.pointer (some ⟨pb, 0, none⟩), .pointer (some ⟨xb, 0, none⟩)]] w fun e w' => e = .returned (.bool true) ∧ Below w.heap.size w w' := by
  rcases hI with ⟨hE, rfl, rfl, rfl, rfl, rfl⟩ | ⟨hE, rfl, rfl, hn', g', _, rfl, hz⟩
  · exact bitsIs_err _ _ w hE
  · rw [hE]
    have hp : pageErr a b n = 0 := by
      unfold cutErr at hE
      by_cases h : pageErr a b n = 0
      · exact h
      · rw [if_neg h] at hE; exact absurd hE h
    obtain ⟨W, H, rfl, rfl, hn, w1, w2, h1, h2, hN, he⟩ := page_nat hp
    have hb : InP X Y i j W H := by
      unfold cutErr at hE
      rw [if_pos hp] at hE
      by_cases hb : InP X Y i j W H
      · exact hb
      · rw [if_neg hb] at hE; simp at hE
    obtain ⟨x, y, p, q, rfl, rfl, rfl, rfl, e1, e2, e3, e4⟩ := box_nat hb
    obtain ⟨g, o, rfl, hc⟩ := isBools_cells hs (by rw [hn]; exact Nat.mul_pos w1 h1)
    simp only [Int.toNat_natCast] at hn' hz
    have hpq := Nat.mul_le_mul (show p ≤ W by omega) (show q ≤ H by omega)
    rw [← hn] at hpq
    refine bitsIs_ok p q g' 0 n' c' 28 _ _ w (by omega) (Go.Proofs.enters_of Try.func28 (by kernel_rfl) rfl) hz ?_
    intro wx hbx
    rw [hn']
    exact cuts1_any W H x y p q pb xb g o n c z wx w2 h2 e1 e2 e3 e4 hn hN (fun j hj => cell_later hbx (hc j hj)) (cell_later hbx c0) (cell_later hbx c1) (cell_later hbx c2) (cell_later hbx d0) (cell_later hbx d1) (cell_later hbx d2) (cell_later hbx d3)

end Go.Proofs.Ytejhmobpepllcaa
