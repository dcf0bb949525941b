/-
  The closures of TurnsMatch that hand out the page turned, and make the page grown.
-/
import Derived.Test.YtejhmobpepllcaaGrow
namespace Go.Proofs.Ytejhmobpepllcaa
open Go.RowKit
set_option linter.unusedSimpArgs false
set_option linter.unusedVariables false

set_option maxRecDepth 100000 in
theorem turns1_any (i j : Int) (sl : Option Addr) (n c pb : Nat) (w : World)
    (c0 : w.cell? ⟨pb, 0, none⟩ = some (.int .i64 i)) (c1 : w.cell? ⟨pb, 1, none⟩ = some (.int .i64 j)) (c2 : w.cell? ⟨pb, 2, none⟩ = some (.slice sl n c)) :
    Calls Try.prog 40 #[.pointer (some ⟨pb, 0, none⟩)] w fun e w' => e = .returned (.agg #[.int .i64 i, .int .i64 j, .slice sl n c]) ∧ Below w.heap.size w w' := by
  have lb := World.block_lt_of_cell? _ _ c0
  simp only at lb
  go_enter Try.func40, Try.ntmps40
  go_wp2_with fail
  refine bodyPost_ret (v := .agg #[.int .i64 i, .int .i64 j, .slice sl n c]) (by simp [results, Try.results40, go_sem]) rfl ⟨rfl, ?_⟩
  exact new_below _ _

set_option maxRecDepth 100000 in
theorem turns5i_any (W H x y a b d t pb tb g o c : Nat) (q : Bool) (w : World) (hW : W ≤ 4000) (hH : H ≤ 4000) (ht : 1 ≤ t) (ha : x / t = a) (hb : y / t = b) (hx : a < W) (hy : b < H) (hx' : x ≤ 64000) (hy' : y ≤ 64000)
    (c0 : w.cell? ⟨pb, 0, none⟩ = some (.int .i64 W)) (c1 : w.cell? ⟨pb, 1, none⟩ = some (.int .i64 H)) (c2 : w.cell? ⟨pb, 2, none⟩ = some (.slice (some ⟨g, o, none⟩) (W * H) c)) (c3 : w.cell? ⟨tb, 0, none⟩ = some (.int .i64 t)) (hc : w.cell? ⟨g, o + (b * W + a), none⟩ = some (.bool q)) :
    Calls Try.prog 52 #[.int .i64 x, .int .i64 y, .pointer (some ⟨pb, 0, none⟩), .pointer (some ⟨tb, 0, none⟩)] w fun e w' => e = .returned (.bool q) ∧ Below w.heap.size w w' := by
  have d1 : (x : Int) / (t : Int) = (a : Int) := by rw [← ha]; simp
  have d2 : (y : Int) / (t : Int) = (b : Int) := by rw [← hb]; simp
  have HA := Lib.hid (at_in W H g o c a b q w.drew (by omega) (by omega) hx hy (cell_later (Below.refl w.heap.size w).drew hc))
  have t0 : (t : Int) ≠ 0 := by omega
  have t0b : ((t : Int) == 0) = false := by simpa using t0
  have t0n : ¬ t = 0 := by omega
  have t0p : (0 : Int) < (t : Int) := by omega
  have x0p : (0 : Int) ≤ (x : Int) := by omega
  have y0p : (0 : Int) ≤ (y : Int) := by omega
  have t0q : (1 : Int) ≤ (t : Int) := by omega
  have g1 : IntKind.i64.wrap ((x : Int) / (t : Int)) = (a : Int) := by rw [d1]; exact IntWalk.i64_in _ (by omega)
  have g2 : IntKind.i64.wrap ((y : Int) / (t : Int)) = (b : Int) := by rw [d2]; exact IntWalk.i64_in _ (by omega)
  have g3 : wrap64 ((x : Int) / (t : Int)) = (a : Int) := by rw [d1]; unfold wrap64; omega
  have g4 : wrap64 ((y : Int) / (t : Int)) = (b : Int) := by rw [d2]; unfold wrap64; omega
  clear hc ha hb d1 d2
  go_enter Try.func52, Try.ntmps52
  go_wp2_with fail
  go_region_held3 (fun w' => w'.cell? ⟨pb, 0, none⟩ = some (.int .i64 W) ∧ w'.cell? ⟨pb, 1, none⟩ = some (.int .i64 H) ∧ w'.cell? ⟨pb, 2, none⟩ = some (.slice (some ⟨g, o, none⟩) (W * H) c) ∧ w'.cell? ⟨tb, 0, none⟩ = some (.int .i64 t))
    (first | (go_keep; done) | (go_split_ands; exact ⟨cell_later hb5 (by assumption), cell_later hb5 (by assumption), cell_later hb5 (by assumption), cell_later hb5 (by assumption)⟩))
    ((first | (go_at_call 44; (try simp only [g1, g2, g3, g4]); with_reducible refine HA.out.mono ?_; rintro e w5 ⟨rfl, hb5⟩)))
  all_goals go_wp2_with fail
  all_goals go_ret
  all_goals exact ⟨rfl, below_step (Below.refl w.heap.size w).drew hb5⟩

set_option maxHeartbeats 400000 in
set_option maxRecDepth 100000 in
theorem turns5_any (W H t W2 H2 pb tb g o c : Nat) (z : Nat → Bool) (w : World) (hW : 1 ≤ W ∧ W ≤ 4000) (hH : 1 ≤ H ∧ H ≤ 4000) (h1 : 1 ≤ t) (h2 : t ≤ 16) (hW2 : W2 = W * t) (hH2 : H2 = H * t) (hW2' : 1 ≤ W2 ∧ W2 ≤ 4000) (hH2' : 1 ≤ H2 ∧ H2 ≤ 4000) (hN : W2 * H2 ≤ 1048576)
    (c0 : w.cell? ⟨pb, 0, none⟩ = some (.int .i64 W)) (c1 : w.cell? ⟨pb, 1, none⟩ = some (.int .i64 H)) (c2 : w.cell? ⟨pb, 2, none⟩ = some (.slice (some ⟨g, o, none⟩) (W * H) c)) (c3 : w.cell? ⟨tb, 0, none⟩ = some (.int .i64 t))
    (hp : ∀ j, j < W * H → w.cell? ⟨g, o + j, none⟩ = some (.bool (z j))) :
    Calls Try.prog 51 #[.pointer (some ⟨pb, 0, none⟩), .pointer (some ⟨tb, 0, none⟩)] w fun e w' => ∃ v, e = .returned v ∧ PageB w' v W2 H2 (W2 * H2) (fun k => z (k / W2 / t * W + k % W2 / t)) ∧ Below w.heap.size w w' := by
  have hmf : ∀ (fn : Fn) (first cap : Array Value) (w : World), (Instr.makeFunc fn first cap).run Try.prog w = .ok (.func fn first cap) w := fun _ _ _ _ => rfl
  have lb := World.block_lt_of_cell? _ _ c0
  have lt := World.block_lt_of_cell? _ _ c3
  simp only at lb lt
  have f1 : (W : Int) * (t : Int) = (W2 : Int) := by rw [hW2, Int.natCast_mul]
  have f2 : (H : Int) * (t : Int) = (H2 : Int) := by rw [hH2, Int.natCast_mul]
  obtain ⟨w1, hw1⟩ : ∃ w1, w1 = w.alloc (.cells #[.int .i64 0, .int .i64 0, .slice none 0 0] 24) := ⟨_, rfl⟩
  have B1 : Below w.heap.size w w1 := by rw [hw1]; exact new_below _ _
  have qb : w1.heap[w.heap.size]? = some (.cells #[.int .i64 0, .int .i64 0, .slice none 0 0] 24 (0, 0)) := by rw [hw1]; exact heap_alloc_new _ _
  have HW2 := Lib.hid hW2
  have HH2 := Lib.hid hH2
  have k0 := cell_later B1 c0
  have k1 := cell_later B1 c1
  have k2 := cell_later B1 c2
  have k3 := cell_later B1 c3
  have L := Lib.hid (Array.getElem?_eq_some_iff.1 qb).1
  have HM := Lib.hid (made_any W2 H2 52 #[.pointer (some ⟨pb, 0, none⟩), .pointer (some ⟨tb, 0, none⟩)] (fun x y => z (y / t * W + x / t)) w1 hW2'.1 (by omega) (by omega) (by omega) (Go.Proofs.enters_of Try.func52 (by kernel_rfl) rfl) (fun x y wx hx hy hbx => by
    have hb := hbx
    obtain ⟨p1, p2⟩ := grown_place h1 (show x < W * t by rw [← HW2.out]; exact hx) (show y < H * t by rw [← HH2.out]; exact hy)
    have hfit := row_fits p2 (show x / t + 1 ≤ W by omega)
    exact turns5i_any W H x y _ _ 0 t pb tb g o c _ wx hW.2 hH.2 h1 rfl rfl p1 p2 (by omega) (by omega) (cell_later hb k0) (cell_later hb k1) (cell_later hb k2) (cell_later hb k3) (cell_later hb (cell_later B1 (hp _ (by omega))))))
  have HQ := Lib.hid qb
  clear hp c2 hW2 hH2 qb
  go_enter Try.func51, Try.ntmps51
  go_wp2_with fail
  rw [← hw1]
  clear hw1
  refine HM.out.mono ?_
  rintro e w5 ⟨v, rfl, hown, hb5⟩
  obtain ⟨j0, j1, j2, r0, r1, r2⟩ := block3 (below_block hb5 HQ.out)
  obtain ⟨g', c', rfl, hgb, hz⟩ := owns_pageB hown (Nat.mul_pos hW2'.1 hH2'.1)
  have ZC := Lib.hid hz
  have G := Lib.hid hb5
  clear hown hb5 hz c0 c1 c3 k0 k1 k2 k3
  go_wp2_with fail
  refine bodyPost_ret (v := .agg #[.int .i64 W2, .int .i64 H2, .slice (some ⟨g', 0, none⟩) (W2 * H2) c']) (by simp [results, Try.results51, go_sem, j0, j1, j2]) rfl ⟨_, rfl, ⟨g', 0, c', rfl, fun j hj => ?_⟩, below_far3 (below_step B1 G.out) (Nat.le_refl _)⟩
  exact cell_far3 (show g' ≠ w.heap.size by have := L.out; omega) (ZC.out j hj)

end Go.Proofs.Ytejhmobpepllcaa
