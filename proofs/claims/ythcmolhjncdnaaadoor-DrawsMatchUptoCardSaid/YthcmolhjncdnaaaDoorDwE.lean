/-
  The reference's DrawOf, and the law's closure.
-/
import Derived.Test.YthcmolhjncdnaaaDoorDwD
import Derived.Test.YthcmolhjncdnaaaDoorSame
namespace Go.Proofs.YthcmolhjncdnaaaDoor
open Go.RowKit
set_option linter.unusedSimpArgs false
set_option linter.unusedVariables false

set_option maxHeartbeats 2000000 in
set_option maxRecDepth 100000 in
theorem drawOf_ok (m : ByteArray) (U Q H W : Nat) (w : World) (hW : W = m.size * U + 2 * Q) (hU : 1 ≤ U ∧ U ≤ 8) (hQ : Q ≤ 200) (h1 : 1 ≤ W ∧ W ≤ 4000) (h2 : 1 ≤ H ∧ H ≤ 4000) (h3 : W * H ≤ 1048576) :
    Calls Tryd.prog 12 #[.string m, .int .i64 U, .int .i64 H, .int .i64 Q] w fun e w' => ∃ g c, e = .returned (.agg #[.int .i64 (W : Int), .int .i64 (H : Int), .slice (some ⟨g, 0, none⟩) (W * H) c]) ∧ w.heap.size ≤ g ∧ (∀ j, j < W * H → w'.cell? ⟨g, 0 + j, none⟩ = some (.bool (drawZ m Q U (j % W)))) ∧ Below w.heap.size w w' := by
  have m1 : (U : Int) * (m.size : Int) = ((m.size * U : Nat) : Int) := by rw [Nat.mul_comm]; simp
  have m2 : 0 ≤ (U : Int) * (m.size : Int) := by rw [m1]; omega
  have m3 : (U : Int) * (m.size : Int) ≤ 4000 := by rw [m1]; omega
  have m4 : 2 * (Q : Int) + (U : Int) * (m.size : Int) = (W : Int) := by rw [m1, hW]; omega
  have hq : Q + U * m.size ≤ 4000 := by rw [Nat.mul_comm]; omega
  have hn1 : (m.size : Int) ≤ 4000 := by
    have : m.size * 1 ≤ m.size * U := Nat.mul_le_mul_left _ hU.1
    omega
  obtain ⟨w1, hw1⟩ : ∃ w1, w1 = drawW m (U : Int) (Q : Int) w := ⟨_, rfl⟩
  have B1 : Below w.heap.size w w1 := by rw [hw1]; unfold drawW; exact below_alloc (below_alloc (below_alloc (new_below _ _) _) _) _
  have q1 : w1.cell? ⟨w.heap.size, 0, none⟩ = some (.string m) := by rw [hw1]; unfold drawW; go_simp
  have q2 : w1.cell? ⟨w.heap.size + 1, 0, none⟩ = some (.int .i64 U) := by rw [hw1]; unfold drawW; go_simp
  have q3 : w1.cell? ⟨w.heap.size + 1 + 1, 0, none⟩ = some (.int .i64 Q) := by rw [hw1]; unfold drawW; go_simp
  have qb : w1.heap[w.heap.size + 1 + 1 + 1]? = some (.cells #[.int .i64 0, .int .i64 0, .slice none 0 0] 24 (0, 0)) := by
    rw [hw1]; unfold drawW; simpa using heap_alloc_new (((w.alloc (.cells #[.string m] 9)).alloc (.cells #[.int .i64 U] 3)).alloc (.cells #[.int .i64 Q] 3)) (.cells #[.int .i64 0, .int .i64 0, .slice none 0 0] 24)
  unfold drawW at hw1
  have K1 := Lib.hid q1
  have K2 := Lib.hid q2
  have K3 := Lib.hid q3
  have QB := Lib.hid qb
  have HB1 := Lib.hid B1
  have FL := Lib.hid (made_any W H 28 #[.pointer (some ⟨w.heap.size + 1 + 1, 0, none⟩), .pointer (some ⟨w.heap.size + 1, 0, none⟩), .pointer (some ⟨w.heap.size, 0, none⟩)] (fun x _ => drawZ m Q U x) w1 h1.1 (by omega) (by omega) (by omega) (Go.Proofs.enters_of Tryd.func28 (by kernel_rfl) rfl)
    (fun x y wx hx hy hbx => drawR1_any m Q U x y _ _ _ wx hU hQ hq (by omega) (cell_later hbx K3.out) (cell_later hbx K1.out) (cell_later hbx K2.out)))
  have HZ := Lib.hid (And.intro h1 h2)
  clear hW hq h3 m1 B1 qb
  go_enter Tryd.func12, Tryd.ntmps12
  go_upto_region 1 with (fail)
  rw [← hw1]
  clear hw1
  go_wp2_with fail
  refine FL.out.mono ?_
  rintro e w4 ⟨v, rfl, hown, hb4⟩
  obtain ⟨j0, j1, j2, r0, r1, r2⟩ := block3 (below_block hb4 QB.out)
  have hlt3 : w.heap.size + 1 + 1 + 1 < w1.heap.size := (Array.getElem?_eq_some_iff.1 QB.out).1
  have HL3 := Lib.hid hlt3
  obtain ⟨g, c, rfl⟩ := owns_slice hown (Nat.mul_pos (by have := HZ.out; omega) (by have := HZ.out; omega))
  have hg := (hown.lt g rfl).1
  have HG := Lib.hid (show g ≠ w.heap.size + 1 + 1 + 1 by omega)
  have HGG := Lib.hid (show w.heap.size ≤ g by omega)
  have HC := Lib.hid (show ∀ j, j < W * H → w4.cell? ⟨g, 0 + j, none⟩ = some (.bool (drawZ m Q U (j % W))) from fun j hj => by
    rw [Nat.zero_add, hown.cellAt j (by omega)]
    simp [places, hj])
  have B4 := Lib.hid (below_step HB1.out hb4)
  clear hown hb4 hg hlt3 FL K1 K2 K3 QB HB1 q1 q2 q3
  go_wp2_with fail
  refine bodyPost_ret (v := .agg #[.int .i64 (W : Int), .int .i64 (H : Int), .slice (some ⟨g, 0, none⟩) (W * H) c]) (by simp [results, Tryd.results12, go_sem, j0, j1, j2]) rfl ⟨g, c, rfl, by have := HG.out; have := HGG.out; omega, fun j hj => cell_far3 HG.out (HC.out j hj), below_far3 B4.out (by have := HL3.out; omega)⟩

set_option maxHeartbeats 2000000 in
set_option maxRecDepth 100000 in
theorem draws1_any (m : ByteArray) (U Q H W mb ub hb qb : Nat) (w : World) (hW : W = m.size * U + 2 * Q) (hU : 1 ≤ U ∧ U ≤ 8) (hQ : Q ≤ 200) (h1 : 1 ≤ W ∧ W ≤ 4000) (h2 : 1 ≤ H ∧ H ≤ 4000) (h3 : W * H ≤ 1048576)
    (c1 : w.cell? ⟨mb, 0, none⟩ = some (.string m)) (c2 : w.cell? ⟨ub, 0, none⟩ = some (.int .i64 U)) (c3 : w.cell? ⟨hb, 0, none⟩ = some (.int .i64 H)) (c4 : w.cell? ⟨qb, 0, none⟩ = some (.int .i64 Q)) :
    Calls Tryd.prog 11 #[.pointer (some ⟨mb, 0, none⟩), .pointer (some ⟨ub, 0, none⟩), .pointer (some ⟨hb, 0, none⟩), .pointer (some ⟨qb, 0, none⟩)] w fun e w' => ∃ v, e = .returned v ∧ PageB w' v W H (W * H) (fun j => drawZ m Q U (j % W)) ∧ Below w.heap.size w w' := by
  obtain ⟨w1, hw1⟩ : ∃ w1, w1 = w.alloc (.cells #[.int .i64 0, .int .i64 0, .slice none 0 0] 24) := ⟨_, rfl⟩
  have B1 : Below w.heap.size w w1 := by rw [hw1]; exact new_below _ _
  have qb' : w1.heap[w.heap.size]? = some (.cells #[.int .i64 0, .int .i64 0, .slice none 0 0] 24 (0, 0)) := by rw [hw1]; exact heap_alloc_new _ _
  have k1 := cell_later B1 c1
  have k2 := cell_later B1 c2
  have k3 := cell_later B1 c3
  have k4 := cell_later B1 c4
  have D := Lib.hid (drawOf_ok m U Q H W w1 hW hU hQ h1 h2 h3)
  have hsz : w.heap.size < w1.heap.size := by rw [hw1]; simp
  clear hW hU hQ h1 h2 h3 c1 c2 c3 c4
  go_enter Tryd.func11, Tryd.ntmps11
  go_upto_region 1 with (fail)
  rw [← hw1]
  clear hw1
  go_wp2_with fail
  refine D.out.mono ?_
  rintro e w2 ⟨g, c, rfl, hgg, hz, hb2⟩
  obtain ⟨j0, j1, j2, r0, r1, r2⟩ := block3 (below_block hb2 qb')
  have G := Lib.hid (below_step B1 hb2)
  have HZ := Lib.hid hz
  have HG := Lib.hid (show g ≠ w.heap.size by omega)
  clear hb2 hz k1 k2 k3 k4 qb' D hgg
  go_wp2_with fail
  refine bodyPost_ret (v := .agg #[.int .i64 (W : Int), .int .i64 (H : Int), .slice (some ⟨g, 0, none⟩) (W * H) c]) (by simp [results, Tryd.results11, go_sem, j0, j1, j2]) rfl ⟨_, rfl, ⟨g, 0, c, rfl, fun j hj => cell_far3 HG.out (HZ.out j hj)⟩, below_far3 G.out (Nat.le_refl _)⟩

end Go.Proofs.YthcmolhjncdnaaaDoor
