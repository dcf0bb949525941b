/-
  The contract of page.Around: the function value that it returns tells the sum and the number of the values around a pixel, as far as they are in the page.
-/
import Derived.Test.YtejhmobpepllcaaAroundC
import Derived.Laws.EntriesVeiled
namespace Go.Proofs.Ytejhmobpepllcaa
open Go.RowKit
set_option linter.unusedSimpArgs false
set_option linter.unusedVariables false

/-- The sum of the square around (x, y), as far as it is in the page, and how many values it has. -/
def squareSum (P : Nat → Int) (W H r x y : Nat) : Int := rectSum P W (y - r) (x - r) (min (x + r + 1) W - (x - r)) (min (y + r + 1) H - (y - r))
def squareMany (W H r x y : Nat) : Int := (((min (x + r + 1) W : Nat) : Int) - ((x - r : Nat) : Int)) * (((min (y + r + 1) H : Nat) : Int) - ((y - r : Nat) : Int))

theorem squareSum_bounds (P : Nat → Int) (hP : ∀ j, 0 ≤ P j ∧ P j ≤ 255) (W H r x y : Nat) (hW : W ≤ 4000) (hH : H ≤ 4000) (hN : W * H ≤ 1048576) : 0 ≤ squareSum P W H r x y ∧ squareSum P W H r x y ≤ 300000000 := by
  have h1 := rectSum_bounds P hP W (y - r) (x - r) (min (x + r + 1) W - (x - r)) (min (y + r + 1) H - (y - r))
  have h2 := Nat.mul_le_mul (show min (x + r + 1) W - (x - r) ≤ W by omega) (show min (y + r + 1) H - (y - r) ≤ H by omega)
  unfold squareSum
  omega

theorem squareMany_bounds (W H r x y : Nat) (hx : x < W) (hy : y < H) (hW : W ≤ 4000) (hH : H ≤ 4000) : 1 ≤ squareMany W H r x y ∧ squareMany W H r x y ≤ 16000000 := by
  unfold squareMany
  have p1 : 1 ≤ (((min (x + r + 1) W : Nat) : Int) - ((x - r : Nat) : Int)) := by omega
  have p2 : 1 ≤ (((min (y + r + 1) H : Nat) : Int) - ((y - r : Nat) : Int)) := by omega
  exact ⟨Int.le_trans (by decide : (1:Int) ≤ 1 * 1) (Int.mul_le_mul p1 p2 (by decide) (by omega)), Int.le_trans (Int.mul_le_mul (by omega : _ ≤ (4000 : Int)) (by omega : _ ≤ (4000 : Int)) (by omega) (by decide)) (by decide)⟩

set_option maxHeartbeats 800000 in
set_option maxRecDepth 100000 in
theorem around_any (W H r g : Nat) (capt : Array Value) (P : Nat → Int) (w : World) (hP : ∀ j, 0 ≤ P j ∧ P j ≤ 255) (hW : 1 ≤ W) (hW' : W ≤ 4000) (hH : H ≤ 4000) (hN : W * H ≤ 1048576) (hr : r ≤ 200)
    (eg : ∀ (args : Array Value) (W : World), (callFunc g args).run Try.prog W = .ok (.enter g args) W)
    (hc : ∀ (x y : Nat) (W' : World), x < W → y < H → Below w.heap.size w W' → Calls Try.prog g (#[.int .i64 x, .int .i64 y] ++ capt) W' fun e W'' => e = .returned (.int .i64 (P (y * W + x))) ∧ Below W'.heap.size W' W'') :
    Calls Try.prog 131 #[.int .i64 W, .int .i64 H, .int .i64 r, .func (.func g) #[] capt] w fun e w' =>
      ∃ c2 : Array Value, e = .returned (.func (.func 174) #[] c2) ∧ Below w.heap.size w w' ∧
        ∀ (x y : Nat) (W' : World), x < W → y < H → Below w'.heap.size w' W' → Calls Try.prog 174 (#[.int .i64 x, .int .i64 y] ++ c2) W' fun e W'' =>
          e = .returned (.tuple #[.int .i64 (squareSum P W H r x y), .int .i64 (squareMany W H r x y)]) ∧ Below W'.heap.size W' W'' := by
  have hmf : ∀ (fn : Fn) (first cap : Array Value) (w : World), (Instr.makeFunc fn first cap).run Try.prog w = .ok (.func fn first cap) w := fun _ _ _ _ => rfl
  have HP := Lib.hid hP
  have HC := Lib.hid hc
  clear hP hc
  go_enter Try.func131, Try.ntmps131
  go_wp2_with fail
  obtain ⟨w3, hw3⟩ : ∃ w3, w3 = (((w.alloc (.cells #[.int .i64 W] 3)).alloc (.cells #[.int .i64 H] 3)).alloc (.cells #[.int .i64 r] 3)) := ⟨_, rfl⟩
  have B3 : Below w.heap.size w w3 := by rw [hw3]; exact below_alloc (below_alloc (new_below _ _) _) _
  have q0 : w3.cell? ⟨w.heap.size, 0, none⟩ = some (.int .i64 W) := by rw [hw3]; go_simp
  have q1 : w3.cell? ⟨w.heap.size + 1, 0, none⟩ = some (.int .i64 H) := by rw [hw3]; go_simp
  have q2 : w3.cell? ⟨w.heap.size + 2, 0, none⟩ = some (.int .i64 r) := by rw [hw3]; go_simp
  rw [← hw3]
  clear hw3
  refine (sumsBefore_any W H _ g capt P w3 rfl HP.out (by omega) (by omega) (by omega) hN eg (fun x y W' hx hy hb => HC.out x y W' hx hy (below_step B3 hb))).mono ?_
  rintro e w1 ⟨g, rfl, hown, hb⟩
  have k0 := cell_later hb q0
  have k1 := cell_later hb q1
  have k2 := cell_later hb q2
  have B1 := below_step B3 hb
  obtain ⟨M, hM⟩ : ∃ M, M = (W + 1) * (H + 1) := ⟨_, rfl⟩
  rw [← hM] at hown ⊢
  have E1 := Lib.hid hM
  have E2 := Lib.hid B1
  have E3 := Lib.hid hown
  clear q0 q1 q2 hb B3 hM B1 hown
  go_wp2_with fail
  go_ret
  refine ⟨_, rfl, below_step E2.out (below_alloc (new_below _ _) _), ?_⟩
  intro x y W' hx hy hbx
  have B4 : Below w1.heap.size w1 W' := below_step (below_alloc (new_below _ _) _) hbx
  have hsum : ∀ j i, j ≤ H → i ≤ W → W'.cell? ⟨g, j * (W + 1) + i, none⟩ = some (.int .i64 (rectSum P W 0 0 i j)) := fun j i hj hi => by
    have hlt : j * (W + 1) + i < M := by
      have := Nat.mul_le_mul_right (W + 1) (show j + 1 ≤ H + 1 by omega)
      rw [Nat.add_mul j 1] at this
      rw [E1.out, Nat.mul_comm (W + 1) (H + 1)]
      omega
    exact cell_later B4 ((E3.out.cellAt (j * (W + 1) + i) (by omega)).trans (sumList_get P W H H 0 j i hi hj (Or.inl hj)))
  have hbd : ∀ j i, j ≤ H → i ≤ W → 0 ≤ rectSum P W 0 0 i j ∧ rectSum P W 0 0 i j ≤ 300000000 := fun j i hj hi => by
    have h1 := rectSum_bounds P HP.out W 0 0 i j
    have h2 := Nat.mul_le_mul hi hj
    omega
  have hM20 : M ≤ 20000000 := by
    have : M = W * H + W + H + 1 := by rw [E1.out]; simp only [Nat.add_mul, Nat.mul_add, Nat.one_mul, Nat.mul_one]; omega
    omega
  have hcn := rect_corners P W (x - r) (y - r) (min (x + r + 1) W - (x - r)) (min (y + r + 1) H - (y - r))
  rw [show x - r + (min (x + r + 1) W - (x - r)) = min (x + r + 1) W by omega, show y - r + (min (y + r + 1) H - (y - r)) = min (y + r + 1) H by omega] at hcn
  have hr1 := rectSum_bounds P HP.out W (y - r) (x - r) (min (x + r + 1) W - (x - r)) (min (y + r + 1) H - (y - r))
  have hr2 := Nat.mul_le_mul (show min (x + r + 1) W - (x - r) ≤ W by omega) (show min (y + r + 1) H - (y - r) ≤ H by omega)
  refine (around2_any x y W H r M (x - r) (min (x + r + 1) W) (y - r) (min (y + r + 1) H) (w.heap.size + 2) w.heap.size (w.heap.size + 1) (w1.heap.size + 1) w1.heap.size g
    (rectSum P W 0 0 (x - r) (y - r)) (rectSum P W 0 0 (x - r) (min (y + r + 1) H)) (rectSum P W 0 0 (min (x + r + 1) W) (y - r)) (rectSum P W 0 0 (min (x + r + 1) W) (min (y + r + 1) H)) W' hx hy (by omega) (by omega) hr
    (by omega) (by omega) (by omega) (by omega) E1.out hM20 (cell_later B4 k2) (cell_later B4 k0) (cell_later B4 k1) (cell_later hbx (by go_simp)) (cell_later hbx (by go_simp))
    (hsum _ _ (by omega) (by omega)) (hsum _ _ (by omega) (by omega)) (hsum _ _ (by omega) (by omega)) (hsum _ _ (by omega) (by omega))
    (hbd _ _ (by omega) (by omega)) (hbd _ _ (by omega) (by omega)) (hbd _ _ (by omega) (by omega)) (hbd _ _ (by omega) (by omega)) (by omega) (by omega)).mono ?_
  rintro e wy ⟨rfl, q, rfl⟩
  refine ⟨?_, below_drewN (Below.refl _ _) q⟩
  unfold squareSum squareMany
  rw [hcn]

end Go.Proofs.Ytejhmobpepllcaa
