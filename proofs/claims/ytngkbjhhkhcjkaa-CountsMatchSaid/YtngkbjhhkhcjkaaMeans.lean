/-
  The contract of page.Means.
-/
import Derived.Test.YtngkbjhhkhcjkaaMeansC
import Derived.Laws.EntriesVeiled
namespace Go.Proofs.Ytngkbjhhkhcjkaa
open Go.RowKit
set_option linter.unusedSimpArgs false
set_option linter.unusedVariables false

/-- The mean of the square around (x, y), as far as it is in the page, rounded. -/
def meanAt (P : Nat → Int) (W H r x y : Nat) : Int :=
  (2 * rectSum P W (y - r) (x - r) (min (x + r + 1) W - (x - r)) (min (y + r + 1) H - (y - r)) + (((min (x + r + 1) W : Nat) : Int) - ((x - r : Nat) : Int)) * (((min (y + r + 1) H : Nat) : Int) - ((y - r : Nat) : Int))) /
    (2 * ((((min (x + r + 1) W : Nat) : Int) - ((x - r : Nat) : Int)) * (((min (y + r + 1) H : Nat) : Int) - ((y - r : Nat) : Int))))

theorem means_badPage (a b r : Int) (p : Option Addr) (n c : Nat) (w : World) (h : pageErr a b n ≠ 0) :
    Calls Try.prog 72 #[.agg #[.int .i64 a, .int .i64 b, .slice p n c], .int .i64 r] w fun e w' => e = .returned (.tuple #[.slice none 0 0, .int .i64 (pageErr a b n)]) ∧ Below w.heap.size w w' := by
  have h' : (pageErr a b n != 0) = true := by simpa using h
  clear h
  go_enter Try.func72, Try.ntmps72
  go_wp2_with ((go_at_call 13; refine (checkGray_any _ _ _ _ _ _).mono ?_; rintro e w' ⟨rfl, rfl⟩))
  go_ret2
  exact ⟨rfl, below_alloc (below_alloc (new_below _ _) _) _⟩

theorem means_badRadius (a b r : Int) (p : Option Addr) (n c : Nat) (w : World) (h : pageErr a b n = 0) (hr : ¬ (0 ≤ r ∧ r ≤ 200)) :
    Calls Try.prog 72 #[.agg #[.int .i64 a, .int .i64 b, .slice p n c], .int .i64 r] w fun e w' => e = .returned (.tuple #[.slice none 0 0, .int .i64 3]) ∧ Below w.heap.size w w' := by
  by_cases h1 : r < 0
  · go_enter Try.func72, Try.ntmps72
    go_wp2_with ((go_at_call 13; refine (checkGray_any _ _ _ _ _ _).mono ?_; rintro e w' ⟨rfl, rfl⟩))
    go_ret2
    exact ⟨rfl, below_alloc (below_alloc (new_below _ _) _) _⟩
  · have h2 : 200 < r := by omega
    clear hr
    go_enter Try.func72, Try.ntmps72
    go_wp2_with ((go_at_call 13; refine (checkGray_any _ _ _ _ _ _).mono ?_; rintro e w' ⟨rfl, rfl⟩))
    go_ret2
    exact ⟨rfl, below_alloc (below_alloc (new_below _ _) _) _⟩

set_option maxHeartbeats 800000 in
set_option maxRecDepth 100000 in
theorem means_ok (W H pb po c r : Nat) (P : Nat → Int) (w : World) (he : sizeErr W H = 0) (hr : r ≤ 200) (hP : ∀ j, 0 ≤ P j ∧ P j ≤ 255) 
    (hp : ∀ j, j < W * H → w.cell? ⟨pb, po + j, none⟩ = some (.int .u8 (P j))) :
    Calls Try.prog 72 #[.agg #[.int .i64 W, .int .i64 H, .slice (some ⟨pb, po, none⟩) (W * H) c], .int .i64 r] w fun e w' => ∃ v, e = .returned (.tuple #[v, .int .i64 0]) ∧
      w'.ownsRow w.heap.size 3 1 v (W * H) ((places W (meanAt P W H r) (W * H)).map (Value.int .i64)) ∧ Below w.heap.size w w' := by
  have hmf : ∀ (fn : Fn) (first cap : Array Value) (w : World), (Instr.makeFunc fn first cap).run Try.prog w = .ok (.func fn first cap) w := fun _ _ _ _ => rfl
  obtain ⟨⟨a1, a2, a3, a4⟩, a5, a6⟩ := sizeErr_zero he
  have hpe : pageErr W H (W * H) = 0 := by unfold pageErr; rw [if_pos he, if_pos (by simp [Int.natCast_mul])]
  have hN : W * H ≤ 1048576 := by rw [← Int.natCast_mul] at a6; omega
  clear a5 a6
  have HP := Lib.hid hP
  have HC := Lib.hid hp
  clear hP hp
  go_enter Try.func72, Try.ntmps72
  go_wp2_with ((go_at_call 13; refine (checkGray_any _ _ _ _ _ _).mono ?_; rintro e w' ⟨rfl, rfl⟩))
  obtain ⟨w3, hw3⟩ : ∃ w3, w3 = (((w.alloc (.cells #[.int .i64 W, .int .i64 H, .slice (some ⟨pb, po, none⟩) (W * H) c] 27)).alloc (.cells #[.int .i64 r] 3)).alloc (.cells #[.int .i64 W, .int .i64 H, .slice (some ⟨pb, po, none⟩) (W * H) c] 27)) := ⟨_, rfl⟩
  have B3 : Below w.heap.size w w3 := by rw [hw3]; exact below_alloc (below_alloc (new_below _ _) _) _
  have q0 : w3.cell? ⟨w.heap.size, 0, none⟩ = some (.int .i64 W) := by rw [hw3]; go_simp
  have q1 : w3.cell? ⟨w.heap.size, 1, none⟩ = some (.int .i64 H) := by rw [hw3]; go_simp
  have q2 : w3.cell? ⟨w.heap.size + 1, 0, none⟩ = some (.int .i64 r) := by rw [hw3]; go_simp
  rw [← hw3]
  clear hw3
  refine (sumsBefore_any W H _ pb po c P w3 rfl HP.out (by omega) (by omega) (by omega) hN (fun j hj => cell_later B3 (HC.out j hj))).mono ?_
  rintro e w1 ⟨g, rfl, hown, hb⟩
  have k0 := cell_later hb q0
  have k1 := cell_later hb q1
  have k2 := cell_later hb q2
  have B1 := below_step B3 hb
  obtain ⟨M, hM⟩ : ∃ M, M = (W + 1) * (H + 1) := ⟨_, rfl⟩
  rw [← hM] at hown ⊢
  have E1 := Lib.hid hM
  have E2 := Lib.hid B1
  have E3 := Lib.hid hown
  have l0 := World.block_lt_of_cell? _ _ k0
  have l2 := World.block_lt_of_cell? _ _ k2
  simp only at l0 l2
  clear q0 q1 q2 hb B3 hM B1 hown
  go_wp2_with fail
  obtain ⟨w4, hw4⟩ : ∃ w4, w4 = ((w1.alloc (.cells #[.slice (some ⟨g, 0, none⟩) M M] 69)).alloc (.cells #[.func (.func 106) #[] #[.pointer (some ⟨w1.heap.size, 0, none⟩), .pointer (some ⟨w.heap.size, 0, none⟩)]] 64)) := ⟨_, rfl⟩
  have B4 : Below w1.heap.size w1 w4 := by rw [hw4]; exact below_alloc (new_below _ _) _
  have n5 : w4.cell? ⟨w1.heap.size, 0, none⟩ = some (.slice (some ⟨g, 0, none⟩) M M) := by rw [hw4]; go_simp
  have n4 : w4.cell? ⟨w1.heap.size + 1, 0, none⟩ = some (.func (.func 106) #[] #[.pointer (some ⟨w1.heap.size, 0, none⟩), .pointer (some ⟨w.heap.size, 0, none⟩)]) := by rw [hw4]; go_simp
  rw [← hw4]
  clear hw4
  have n0 := cell_later B4 k0
  have n1 := cell_later B4 k1
  have n2 := cell_later B4 k2
  have hsum : ∀ j i, j ≤ H → i ≤ W → w4.cell? ⟨g, j * (W + 1) + i, none⟩ = some (.int .i64 (rectSum P W 0 0 i j)) := fun j i hj hi => by
    have hlt : j * (W + 1) + i < M := by
      have := Nat.mul_le_mul_right (W + 1) (show j + 1 ≤ H + 1 by omega)
      rw [Nat.add_mul j 1] at this
      rw [E1.out, Nat.mul_comm (W + 1) (H + 1)]
      omega
    exact cell_later B4 ((E3.out.cellAt (j * (W + 1) + i) (by omega)).trans (sumList_get P W H H 0 j i hi hj (Or.inl hj)))
  have hbd : ∀ j i, j ≤ H → i ≤ W → 0 ≤ rectSum P W 0 0 i j ∧ rectSum P W 0 0 i j ≤ 300000000 := fun j i hj hi => by
    have h1 := rectSum_bounds P HP.out W 0 0 i j
    have h2 := Nat.mul_le_mul hi hj
    omega
  have hM20 : M ≤ 20000000 := by
    have : M = W * H + W + H + 1 := by rw [E1.out]; simp only [Nat.add_mul, Nat.mul_add, Nat.one_mul, Nat.mul_one]; omega
    omega
  refine (fillInt_any W H 108 _ (meanAt P W H r) w4 (by omega) (by omega) (by omega) (by omega) (Go.Proofs.enters_of Try.func108 (by kernel_rfl) rfl) ?_).mono ?_
  · intro x y wx hx hy hbx
    have hc := rect_corners P W (x - r) (y - r) (min (x + r + 1) W - (x - r)) (min (y + r + 1) H - (y - r))
    rw [show x - r + (min (x + r + 1) W - (x - r)) = min (x + r + 1) W by omega, show y - r + (min (y + r + 1) H - (y - r)) = min (y + r + 1) H by omega] at hc
    have hr1 := rectSum_bounds P HP.out W (y - r) (x - r) (min (x + r + 1) W - (x - r)) (min (y + r + 1) H - (y - r))
    have hr2 := Nat.mul_le_mul (show min (x + r + 1) W - (x - r) ≤ W by omega) (show min (y + r + 1) H - (y - r) ≤ H by omega)
    refine (means2_any x y W H r M (x - r) (min (x + r + 1) W) (y - r) (min (y + r + 1) H) (w.heap.size + 1) w.heap.size (w1.heap.size + 1) w1.heap.size g
      (rectSum P W 0 0 (x - r) (y - r)) (rectSum P W 0 0 (x - r) (min (y + r + 1) H)) (rectSum P W 0 0 (min (x + r + 1) W) (y - r)) (rectSum P W 0 0 (min (x + r + 1) W) (min (y + r + 1) H)) wx hx hy (by omega) (by omega) hr
      (by omega) (by omega) (by omega) (by omega) E1.out hM20 (cell_later hbx n2) (cell_later hbx n0) (cell_later hbx n1) (cell_later hbx n4) (cell_later hbx n5)
      (cell_later hbx (hsum _ _ (by omega) (by omega))) (cell_later hbx (hsum _ _ (by omega) (by omega))) (cell_later hbx (hsum _ _ (by omega) (by omega))) (cell_later hbx (hsum _ _ (by omega) (by omega)))
      (hbd _ _ (by omega) (by omega)) (hbd _ _ (by omega) (by omega)) (hbd _ _ (by omega) (by omega)) (hbd _ _ (by omega) (by omega)) (by omega) (by omega)).mono ?_
    rintro e wy ⟨rfl, q, rfl⟩
    refine ⟨ret_int ?_, below_drewN (Below.refl _ _) q⟩
    unfold meanAt
    rw [hc]
  · rintro e w5 ⟨v, rfl, hown, hb5⟩
    have F := Lib.hid hown
    have G := Lib.hid hb5
    clear hown hb5 hsum hbd
    go_wp2
    go_ret2
    exact ⟨v, rfl, owns_base F.out (Nat.le_trans E2.out.size B4.size), below_step (below_step E2.out B4) G.out⟩

end Go.Proofs.Ytngkbjhhkhcjkaa
