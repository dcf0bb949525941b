/-
  The contract of page.Means.
-/
import Derived.Test.YtejhmobpepllcaaAround
import Derived.Test.YtejhmobpepllcaaSmall
import Derived.Laws.EntriesVeiled
namespace Go.Proofs.Ytejhmobpepllcaa
open Go.RowKit
set_option linter.unusedSimpArgs false
set_option linter.unusedVariables false

/-- The mean of the square around (x, y), as far as it is in the page, rounded. -/
def meanAt (P : Nat → Int) (W H r x y : Nat) : Int :=
  (2 * rectSum P W (y - r) (x - r) (min (x + r + 1) W - (x - r)) (min (y + r + 1) H - (y - r)) + (((min (x + r + 1) W : Nat) : Int) - ((x - r : Nat) : Int)) * (((min (y + r + 1) H : Nat) : Int) - ((y - r : Nat) : Int))) /
    (2 * ((((min (x + r + 1) W : Nat) : Int) - ((x - r : Nat) : Int)) * (((min (y + r + 1) H : Nat) : Int) - ((y - r : Nat) : Int))))

theorem means_badPage (a b r : Int) (p : Option Addr) (n c : Nat) (w : World) (h : pageErr a b n ≠ 0) :
    Calls Try.prog 76 #[.agg #[.int .i64 a, .int .i64 b, .slice p n c], .int .i64 r] w fun e w' => e = .returned (.tuple #[.slice none 0 0, .int .i64 (pageErr a b n)]) ∧ Below w.heap.size w w' := by
  have h' : (pageErr a b n != 0) = true := by simpa using h
  clear h
  go_enter Try.func76, Try.ntmps76
  go_wp2_with ((go_at_call 17; refine (checkGray_any _ _ _ _ _ _).mono ?_; rintro e w' ⟨rfl, rfl⟩))
  go_ret2
  exact ⟨rfl, below_alloc (new_below _ _) _⟩

theorem means_badRadius (a b r : Int) (p : Option Addr) (n c : Nat) (w : World) (h : pageErr a b n = 0) (hr : ¬ (0 ≤ r ∧ r ≤ 200)) :
    Calls Try.prog 76 #[.agg #[.int .i64 a, .int .i64 b, .slice p n c], .int .i64 r] w fun e w' => e = .returned (.tuple #[.slice none 0 0, .int .i64 3]) ∧ Below w.heap.size w w' := by
  by_cases h1 : r < 0
  · go_enter Try.func76, Try.ntmps76
    go_wp2_with ((go_at_call 17; refine (checkGray_any _ _ _ _ _ _).mono ?_; rintro e w' ⟨rfl, rfl⟩))
    go_ret2
    exact ⟨rfl, below_alloc (new_below _ _) _⟩
  · have h2 : 200 < r := by omega
    clear hr
    go_enter Try.func76, Try.ntmps76
    go_wp2_with ((go_at_call 17; refine (checkGray_any _ _ _ _ _ _).mono ?_; rintro e w' ⟨rfl, rfl⟩))
    go_ret2
    exact ⟨rfl, below_alloc (new_below _ _) _⟩

/-- The closure that tells a page's values. -/
theorem means1_any (W H x y gb pb po c : Nat) (P : Nat → Int) (w : World) (hW : W ≤ 4000) (hH : H ≤ 4000) (hx : x < W) (hy : y < H)
    (h0 : w.cell? ⟨gb, 0, none⟩ = some (.int .i64 W)) (h2 : w.cell? ⟨gb, 2, none⟩ = some (.slice (some ⟨pb, po, none⟩) (W * H) c)) (hp : w.cell? ⟨pb, po + (y * W + x), none⟩ = some (.int .u8 (P (y * W + x)))) (hP : 0 ≤ P (y * W + x) ∧ P (y * W + x) ≤ 255) :
    Calls Try.prog 132 #[.int .i64 x, .int .i64 y, .pointer (some ⟨gb, 0, none⟩)] w fun e w' => e = .returned (.int .i64 (P (y * W + x))) ∧ w = w' := by
  have hfit := row_fits hy (show x + 1 ≤ W by omega)
  have hN := Nat.mul_le_mul hW hH
  have x0 : (0 : Int) ≤ (y : Int) * (W : Int) := Int.mul_nonneg (by omega) (by omega)
  have x1 : (y : Int) * (W : Int) + (x : Int) < ((W * H : Nat) : Int) := by rw [← Int.natCast_mul]; omega
  have x3 : (y : Int) * (W : Int) + (x : Int) < (W : Int) * (H : Int) := by rw [← Int.natCast_mul, ← Int.natCast_mul]; omega
  have x2 : ((W * H : Nat) : Int) ≤ 16000000 := by omega
  obtain ⟨p, hpe⟩ : ∃ p, p = P (y * W + x) := ⟨_, rfl⟩
  rw [← hpe] at hp hP ⊢
  clear hfit hN hpe
  go_enter Try.func132, Try.ntmps132
  go_wp2
  go_ret
  exact ⟨rfl, rfl⟩

set_option maxRecDepth 100000 in
theorem means2_any (x y ab g : Nat) (c2 : Array Value) (su mn : Int) (w : World) (b1 : 0 ≤ su ∧ su ≤ 300000000) (b2 : 1 ≤ mn ∧ mn ≤ 16000000)
    (eg : ∀ (args : Array Value) (W : World), (callFunc g args).run Try.prog W = .ok (.enter g args) W)
    (h0 : w.cell? ⟨ab, 0, none⟩ = some (.func (.func g) #[] c2))
    (hc : Calls Try.prog g (#[.int .i64 x, .int .i64 y] ++ c2) w fun e w' => e = .returned (.tuple #[.int .i64 su, .int .i64 mn]) ∧ Below w.heap.size w w') :
    Calls Try.prog 134 #[.int .i64 x, .int .i64 y, .pointer (some ⟨ab, 0, none⟩)] w fun e w' => e = .returned (.int .i64 ((2 * su + mn) / (2 * mn))) ∧ Below w.heap.size w w' := by
  have HC := Lib.hid hc
  clear hc
  go_enter Try.func134, Try.ntmps134
  go_wp2_with (first | (go_at_fn g; refine HC.out.mono ?_; rintro e w1 ⟨rfl, hb⟩) | (go_at_call 135; refine (rounded_any _ _ _ (by omega) (by omega) (by omega) (by omega)).mono ?_; rintro e w2 ⟨rfl, rfl⟩))
  go_ret
  exact ⟨rfl, hb⟩

set_option maxHeartbeats 800000 in
set_option maxRecDepth 100000 in
theorem means_ok (W H pb po c r : Nat) (P : Nat → Int) (w : World) (he : sizeErr W H = 0) (hr : r ≤ 200) (hP : ∀ j, 0 ≤ P j ∧ P j ≤ 255) 
    (hp : ∀ j, j < W * H → w.cell? ⟨pb, po + j, none⟩ = some (.int .u8 (P j))) :
    Calls Try.prog 76 #[.agg #[.int .i64 W, .int .i64 H, .slice (some ⟨pb, po, none⟩) (W * H) c], .int .i64 r] w fun e w' => ∃ v, e = .returned (.tuple #[v, .int .i64 0]) ∧
      w'.ownsRow w.heap.size 3 1 v (W * H) ((places W (meanAt P W H r) (W * H)).map (Value.int .i64)) ∧ Below w.heap.size w w' := by
  have hmf : ∀ (fn : Fn) (first cap : Array Value) (w : World), (Instr.makeFunc fn first cap).run Try.prog w = .ok (.func fn first cap) w := fun _ _ _ _ => rfl
  obtain ⟨⟨a1, a2, a3, a4⟩, a5, a6⟩ := sizeErr_zero he
  have hpe : pageErr W H (W * H) = 0 := by unfold pageErr; rw [if_pos he, if_pos (by simp [Int.natCast_mul])]
  have hN : W * H ≤ 1048576 := by rw [← Int.natCast_mul] at a6; omega
  clear a5 a6
  have HP := Lib.hid hP
  have HC := Lib.hid hp
  clear hP hp
  go_enter Try.func76, Try.ntmps76
  go_wp2_with ((go_at_call 17; refine (checkGray_any _ _ _ _ _ _).mono ?_; rintro e w' ⟨rfl, rfl⟩))
  obtain ⟨w3, hw3⟩ : ∃ w3, w3 = ((w.alloc (.cells #[.int .i64 W, .int .i64 H, .slice (some ⟨pb, po, none⟩) (W * H) c] 27)).alloc (.cells #[.int .i64 W, .int .i64 H, .slice (some ⟨pb, po, none⟩) (W * H) c] 27)) := ⟨_, rfl⟩
  have B3 : Below w.heap.size w w3 := by rw [hw3]; exact below_alloc (new_below _ _) _
  have q0 : w3.cell? ⟨w.heap.size, 0, none⟩ = some (.int .i64 W) := by rw [hw3]; go_simp
  have q1 : w3.cell? ⟨w.heap.size, 1, none⟩ = some (.int .i64 H) := by rw [hw3]; go_simp
  have q2 : w3.cell? ⟨w.heap.size, 2, none⟩ = some (.slice (some ⟨pb, po, none⟩) (W * H) c) := by rw [hw3]; go_simp
  rw [← hw3]
  clear hw3
  refine (around_any W H r 132 _ P w3 HP.out (by omega) (by omega) (by omega) hN hr (Go.Proofs.enters_of Try.func132 (by kernel_rfl) rfl) ?_).mono ?_
  · intro x y W' hx hy hb
    have hfit := row_fits hy (show x + 1 ≤ W by omega)
    refine (means1_any W H x y w.heap.size pb po c P W' (by omega) (by omega) hx hy (cell_later hb q0) (cell_later hb q2) (cell_later hb (cell_later B3 (HC.out _ (by omega)))) (HP.out _)).mono ?_
    rintro e wy ⟨rfl, rfl⟩
    exact ⟨rfl, Below.refl _ _⟩
  · rintro e w1 ⟨c2, rfl, hb1, hc2⟩
    have k0 := cell_later hb1 q0
    have k1 := cell_later hb1 q1
    have B1 := Lib.hid (below_step B3 hb1)
    have HC2 := Lib.hid hc2
    have l0 := World.block_lt_of_cell? _ _ k0
    simp only at l0
    clear q0 q1 q2 hb1 hc2 B3
    go_wp2_with fail
    obtain ⟨w4, hw4⟩ : ∃ w4, w4 = w1.alloc (.cells #[.func (.func 174) #[] c2] 127) := ⟨_, rfl⟩
    have B4 : Below w1.heap.size w1 w4 := by rw [hw4]; exact new_below _ _
    have n0 : w4.cell? ⟨w1.heap.size, 0, none⟩ = some (.func (.func 174) #[] c2) := by rw [hw4]; go_simp
    rw [← hw4]
    clear hw4
    refine (fillInt_any W H 134 _ (meanAt P W H r) w4 (by omega) (by omega) (by omega) (by omega) (Go.Proofs.enters_of Try.func134 (by kernel_rfl) rfl) ?_).mono ?_
    · intro x y wx hx hy hbx
      exact means2_any x y w1.heap.size 174 c2 _ _ wx (squareSum_bounds P HP.out W H r x y (by omega) (by omega) hN) (squareMany_bounds W H r x y hx hy (by omega) (by omega)) (Go.Proofs.enters_of Try.func174 (by kernel_rfl) rfl) (cell_later hbx n0) (HC2.out x y wx hx hy (below_step B4 hbx))
    · rintro e w5 ⟨v, rfl, hown, hb5⟩
      have F := Lib.hid hown
      have G := Lib.hid hb5
      clear hown hb5
      go_wp2
      go_ret2
      exact ⟨v, rfl, owns_base F.out (Nat.le_trans B1.out.size B4.size), below_step (below_step B1.out B4) G.out⟩

end Go.Proofs.Ytejhmobpepllcaa
