/-
  Package clean: outside, byInkAround, Spread and Shrink.
-/
import Derived.Test.YtejhmobpepllcaaAround
import Derived.Test.YtejhmobpepllcaaFitB
namespace Go.Proofs.Ytejhmobpepllcaa
open Go.RowKit
set_option linter.unusedSimpArgs false
set_option linter.unusedVariables false

theorem outside_no (n a b : Int) (w : World) (h : a ≤ n ∧ n ≤ b) : Calls Try.prog 143 #[.int .i64 n, .int .i64 a, .int .i64 b] w fun r w' => r = .returned (.bool false) ∧ w = w' := by
  obtain ⟨h1, h2⟩ := h
  go_enter Try.func143, Try.ntmps143
  go_wp2
  go_ret
  exact ⟨ret_bool (by simp; omega), rfl⟩

theorem outside_yes (n a b : Int) (w : World) (h : ¬ (a ≤ n ∧ n ≤ b)) : Calls Try.prog 143 #[.int .i64 n, .int .i64 a, .int .i64 b] w fun r w' => r = .returned (.bool true) ∧ w = w' := by
  by_cases h1 : n < a
  · clear h
    go_enter Try.func143, Try.ntmps143
    go_wp2
    go_ret
    exact ⟨rfl, rfl⟩
  · have h2 : b < n := by omega
    have h3 : a ≤ n := by omega
    clear h h1
    go_enter Try.func143, Try.ntmps143
    go_wp2
    go_ret
    exact ⟨rfl, rfl⟩

/-- 1 for ink. -/
def inkOne (b : Bool) : Int := if b then 1 else 0
theorem inkOne_bounds (b : Bool) : 0 ≤ inkOne b ∧ inkOne b ≤ 255 := by cases b <;> decide

theorem byInk1_any (W H x y gb pb po c : Nat) (z : Nat → Bool) (w : World) (hW : W ≤ 4000) (hH : H ≤ 4000) (hx : x < W) (hy : y < H)
    (h0 : w.cell? ⟨gb, 0, none⟩ = some (.int .i64 W)) (h2 : w.cell? ⟨gb, 2, none⟩ = some (.slice (some ⟨pb, po, none⟩) (W * H) c)) (hp : w.cell? ⟨pb, po + (y * W + x), none⟩ = some (.bool (z (y * W + x)))) :
    Calls Try.prog 179 #[.int .i64 x, .int .i64 y, .pointer (some ⟨gb, 0, none⟩)] w fun e w' => e = .returned (.int .i64 (inkOne (z (y * W + x)))) ∧ w = w' := by
  have hfit := row_fits hy (show x + 1 ≤ W by omega)
  have hN := Nat.mul_le_mul hW hH
  have x0 : (0 : Int) ≤ (y : Int) * (W : Int) := Int.mul_nonneg (by omega) (by omega)
  have x1 : (y : Int) * (W : Int) + (x : Int) < ((W * H : Nat) : Int) := by rw [← Int.natCast_mul]; omega
  have x3 : (y : Int) * (W : Int) + (x : Int) < (W : Int) * (H : Int) := by rw [← Int.natCast_mul, ← Int.natCast_mul]; omega
  have x2 : ((W * H : Nat) : Int) ≤ 16000000 := by omega
  obtain ⟨p, hpe⟩ : ∃ p, p = z (y * W + x) := ⟨_, rfl⟩
  rw [← hpe] at hp ⊢
  clear hfit hN hpe
  cases p
  · go_enter Try.func179, Try.ntmps179
    go_wp2
    go_ret
    exact ⟨rfl, rfl⟩
  · go_enter Try.func179, Try.ntmps179
    go_wp2
    go_ret
    exact ⟨rfl, rfl⟩

set_option maxRecDepth 100000 in
theorem byInk2_any (x y ab lb g : Nat) (c2 : Array Value) (su mn least : Int) (w : World)
    (eg : ∀ (args : Array Value) (W : World), (callFunc g args).run Try.prog W = .ok (.enter g args) W)
    (h0 : w.cell? ⟨ab, 0, none⟩ = some (.func (.func g) #[] c2)) (h1 : w.cell? ⟨lb, 0, none⟩ = some (.int .i64 least))
    (hc : Calls Try.prog g (#[.int .i64 x, .int .i64 y] ++ c2) w fun e w' => e = .returned (.tuple #[.int .i64 su, .int .i64 mn]) ∧ Below w.heap.size w w') :
    Calls Try.prog 180 #[.int .i64 x, .int .i64 y, .pointer (some ⟨ab, 0, none⟩), .pointer (some ⟨lb, 0, none⟩)] w fun e w' => e = .returned (.bool (decide (least ≤ su))) ∧ Below w.heap.size w w' := by
  have HC := Lib.hid hc
  clear hc
  by_cases hd : least ≤ su
  · have HD := Lib.hid hd
    go_enter Try.func180, Try.ntmps180
    go_wp2_with (go_at_fn g; refine HC.out.mono ?_; rintro e w1 ⟨rfl, hb⟩; have k1 := cell_later hb h1)
    go_ret
    exact ⟨ret_bool (by simp [HD.out]), hb⟩
  · have HD := Lib.hid hd
    go_enter Try.func180, Try.ntmps180
    go_wp2_with (go_at_fn g; refine HC.out.mono ?_; rintro e w1 ⟨rfl, hb⟩; have k1 := cell_later hb h1)
    go_ret
    exact ⟨ret_bool (by simp [HD.out]), hb⟩

theorem byInk_badPage (a b r least : Int) (p : Option Addr) (n c : Nat) (w : World) (h : pageErr a b n ≠ 0) :
    Calls Try.prog 157 #[.agg #[.int .i64 a, .int .i64 b, .slice p n c], .int .i64 r, .int .i64 least] w fun e w' => e = .returned (.tuple #[.agg #[.int .i64 0, .int .i64 0, .slice none 0 0], .int .i64 (pageErr a b n)]) ∧ Below w.heap.size w w' := by
  have h' : (pageErr a b n != 0) = true := by simpa using h
  clear h
  go_enter Try.func157, Try.ntmps157
  go_wp2_with ((go_at_call 16; refine (checkBits_any _ _ _ _ _ _).mono ?_; rintro e w' ⟨rfl, rfl⟩))
  refine bodyPost_ret (v := .tuple #[.agg #[.int .i64 0, .int .i64 0, .slice none 0 0], .int .i64 (pageErr a b n)]) (by simp [results, Try.results157, go_sem]) rfl ⟨rfl, below_alloc (below_alloc (below_alloc (new_below _ _) _) _) _⟩

theorem byInk_badRadius (a b r least : Int) (p : Option Addr) (n c : Nat) (w : World) (h : pageErr a b n = 0) (hr : ¬ (0 ≤ r ∧ r ≤ 50)) :
    Calls Try.prog 157 #[.agg #[.int .i64 a, .int .i64 b, .slice p n c], .int .i64 r, .int .i64 least] w fun e w' => e = .returned (.tuple #[.agg #[.int .i64 0, .int .i64 0, .slice none 0 0], .int .i64 3]) ∧ Below w.heap.size w w' := by
  have HR := Lib.hid hr
  clear hr
  go_enter Try.func157, Try.ntmps157
  go_wp2_with (first | (go_at_call 16; refine (checkBits_any _ _ _ _ _ _).mono ?_; rintro e w' ⟨rfl, rfl⟩) | (go_at_call 143; refine (outside_yes _ _ _ _ HR.out).mono ?_; rintro e w' ⟨rfl, rfl⟩))
  refine bodyPost_ret (v := .tuple #[.agg #[.int .i64 0, .int .i64 0, .slice none 0 0], .int .i64 3]) (by simp [results, Try.results157, go_sem]) rfl ⟨rfl, below_alloc (below_alloc (below_alloc (new_below _ _) _) _) _⟩

set_option maxHeartbeats 800000 in
set_option maxRecDepth 100000 in
theorem byInk_ok (W H pb po c r : Nat) (least : Int) (z : Nat → Bool) (w : World) (he : sizeErr W H = 0) (hr : r ≤ 50)
    (hp : ∀ j, j < W * H → w.cell? ⟨pb, po + j, none⟩ = some (.bool (z j))) :
    Calls Try.prog 157 #[.agg #[.int .i64 W, .int .i64 H, .slice (some ⟨pb, po, none⟩) (W * H) c], .int .i64 r, .int .i64 least] w fun e w' =>
      ∃ v, e = .returned (.tuple #[.agg #[.int .i64 W, .int .i64 H, v], .int .i64 0]) ∧ w'.ownsRow w.heap.size 4 1 v (W * H) ((places W (fun x y => decide (least ≤ squareSum (fun j => inkOne (z j)) W H r x y)) (W * H)).map Value.bool) ∧ Below w.heap.size w w' := by
  have hmf : ∀ (fn : Fn) (first cap : Array Value) (w : World), (Instr.makeFunc fn first cap).run Try.prog w = .ok (.func fn first cap) w := fun _ _ _ _ => rfl
  obtain ⟨⟨a1, a2, a3, a4⟩, a5, a6⟩ := sizeErr_zero he
  have hpe : pageErr W H (W * H) = 0 := by unfold pageErr; rw [if_pos he, if_pos (by simp [Int.natCast_mul])]
  have hN : W * H ≤ 1048576 := by rw [← Int.natCast_mul] at a6; omega
  clear a5 a6 he
  have HC := Lib.hid hp
  clear hp
  go_enter Try.func157, Try.ntmps157
  go_wp2_with (first | (go_at_call 16; refine (checkBits_any _ _ _ _ _ _).mono ?_; rintro e w' ⟨rfl, rfl⟩) | (go_at_call 143; refine (outside_no _ _ _ _ (by omega)).mono ?_; rintro e w' ⟨rfl, rfl⟩))
  obtain ⟨w3, hw3⟩ : ∃ w3, w3 = (((w.alloc (.cells #[.int .i64 W, .int .i64 H, .slice (some ⟨pb, po, none⟩) (W * H) c] 24)).alloc (.cells #[.int .i64 least] 3)).alloc (.cells #[.int .i64 0, .int .i64 0, .slice none 0 0] 24)).alloc (.cells #[.int .i64 W, .int .i64 H, .slice (some ⟨pb, po, none⟩) (W * H) c] 24) := ⟨_, rfl⟩
  have B3 : Below w.heap.size w w3 := by rw [hw3]; exact below_alloc (below_alloc (below_alloc (new_below _ _) _) _) _
  have q0 : w3.cell? ⟨w.heap.size, 0, none⟩ = some (.int .i64 W) := by rw [hw3]; go_simp
  have q1 : w3.cell? ⟨w.heap.size, 1, none⟩ = some (.int .i64 H) := by rw [hw3]; go_simp
  have q2 : w3.cell? ⟨w.heap.size, 2, none⟩ = some (.slice (some ⟨pb, po, none⟩) (W * H) c) := by rw [hw3]; go_simp
  have q3 : w3.cell? ⟨w.heap.size + 1, 0, none⟩ = some (.int .i64 least) := by rw [hw3]; go_simp
  have qb : w3.heap[w.heap.size + 1 + 1]? = some (.cells #[.int .i64 0, .int .i64 0, .slice none 0 0] 24 (0, 0)) := by
    rw [hw3, Below.heap_alloc _ _ _ (by simp)]
    simpa using heap_alloc_new ((w.alloc (.cells #[.int .i64 W, .int .i64 H, .slice (some ⟨pb, po, none⟩) (W * H) c] 24)).alloc (.cells #[.int .i64 least] 3)) (.cells #[.int .i64 0, .int .i64 0, .slice none 0 0] 24)
  rw [← hw3]
  clear hw3
  have lt1 := Lib.hid (Array.getElem?_eq_some_iff.1 qb).1
  refine (around_any W H r 179 _ (fun j => inkOne (z j)) w3 (fun j => inkOne_bounds _) (by omega) (by omega) (by omega) hN (by omega) (Go.Proofs.enters_of Try.func179 (by kernel_rfl) rfl) ?_).mono ?_
  · intro x y W' hx hy hb
    have hfit := row_fits hy (show x + 1 ≤ W by omega)
    refine (byInk1_any W H x y w.heap.size pb po c z W' (by omega) (by omega) hx hy (cell_later hb q0) (cell_later hb q2) (cell_later hb (cell_later B3 (HC.out _ (by omega))))).mono ?_
    rintro e wy ⟨rfl, rfl⟩
    exact ⟨rfl, Below.refl _ _⟩
  · rintro e w1 ⟨c2, rfl, hb1, hc2⟩
    have k0 := cell_later hb1 q0
    have k1 := cell_later hb1 q1
    have k3 := cell_later hb1 q3
    have kb := below_block hb1 qb
    have B1 := Lib.hid (below_step B3 hb1)
    have HC2 := Lib.hid hc2
    have HB1 := Lib.hid hb1
    have l0 := World.block_lt_of_cell? _ _ k0
    simp only at l0
    clear q0 q1 q2 q3 qb hb1 hc2
    go_wp2_with fail
    obtain ⟨w4, hw4⟩ : ∃ w4, w4 = w1.alloc (.cells #[.func (.func 174) #[] c2] 127) := ⟨_, rfl⟩
    have B4 : Below w1.heap.size w1 w4 := by rw [hw4]; exact new_below _ _
    have n0 : w4.cell? ⟨w1.heap.size, 0, none⟩ = some (.func (.func 174) #[] c2) := by rw [hw4]; go_simp
    have m0 := cell_later B4 k0
    have m1 := cell_later B4 k1
    have m3 := cell_later B4 k3
    have mb := below_block B4 kb
    rw [← hw4]
    clear hw4 k0 k1 k3 kb
    refine (fillBool_any W H 180 _ (fun x y => decide (least ≤ squareSum (fun j => inkOne (z j)) W H r x y)) w4 (by omega) (by omega) (by omega) (by omega) (Go.Proofs.enters_of Try.func180 (by kernel_rfl) rfl) ?_).mono ?_
    · intro x y wx hx hy hbx
      exact byInk2_any x y w1.heap.size (w.heap.size + 1) 174 c2 _ _ least wx (Go.Proofs.enters_of Try.func174 (by kernel_rfl) rfl) (cell_later hbx n0) (cell_later hbx m3) (HC2.out x y wx hx hy (below_step B4 hbx))
    · rintro e w5 ⟨v, rfl, hown, hb5⟩
      obtain ⟨j0, j1, j2, r0, r1, r2⟩ := block3 (below_block hb5 mb)
      obtain ⟨va, vn, vc, rfl⟩ := owns_shape hown
      have k0 := cell_later hb5 m0
      have k1 := cell_later hb5 m1
      have F := Lib.hid hown
      have G := Lib.hid hb5
      have L1 := Lib.hid (Nat.lt_of_lt_of_le lt1.out (Nat.le_trans HB1.out.size B4.size))
      have S1 := Lib.hid B4.size
      have S2 := Lib.hid B4
      clear hown hb5 m0 m1 m3 mb n0 B4 B3
      go_wp2_with fail
      refine bodyPost_ret (v := .tuple #[.agg #[.int .i64 W, .int .i64 H, .slice va vn vc], .int .i64 0]) (by simp [results, Try.results157, go_sem, j0, j1, j2]) rfl ⟨_, rfl, owns_far3 F.out L1.out (Nat.le_trans B1.out.size S1.out), below_far3 (below_step (below_step B1.out S2.out) G.out) (by omega)⟩

end Go.Proofs.Ytejhmobpepllcaa
