/-
  clean.Local.
-/
import Derived.Test.YtejhmobpepllcaaInk
import Derived.Deep.RegionHeld3
namespace Go.Proofs.Ytejhmobpepllcaa
open Go.RowKit
set_option linter.unusedSimpArgs false
set_option linter.unusedVariables false

/-- Whether a pixel is darker, by part thousandths, than the mean of the square around it. -/
def localB (P : Nat → Int) (W H r : Nat) (part : Int) (x y : Nat) : Bool := decide (P (y * W + x) * squareMany W H r x y * 1000 < squareSum P W H r x y * (1000 - part))

theorem local1_any (W H x y gb pb po c : Nat) (P : Nat → Int) (w : World) (hW : W ≤ 4000) (hH : H ≤ 4000) (hx : x < W) (hy : y < H)
    (h0 : w.cell? ⟨gb, 0, none⟩ = some (.int .i64 W)) (h2 : w.cell? ⟨gb, 2, none⟩ = some (.slice (some ⟨pb, po, none⟩) (W * H) c)) (hp : w.cell? ⟨pb, po + (y * W + x), none⟩ = some (.int .u8 (P (y * W + x)))) (hP : 0 ≤ P (y * W + x) ∧ P (y * W + x) ≤ 255) :
    Calls Try.prog 144 #[.int .i64 x, .int .i64 y, .pointer (some ⟨gb, 0, none⟩)] w fun e w' => e = .returned (.int .i64 (P (y * W + x))) ∧ w = w' := by
  have hfit := row_fits hy (show x + 1 ≤ W by omega)
  have hN := Nat.mul_le_mul hW hH
  have x0 : (0 : Int) ≤ (y : Int) * (W : Int) := Int.mul_nonneg (by omega) (by omega)
  have x1 : (y : Int) * (W : Int) + (x : Int) < ((W * H : Nat) : Int) := by rw [← Int.natCast_mul]; omega
  have x3 : (y : Int) * (W : Int) + (x : Int) < (W : Int) * (H : Int) := by rw [← Int.natCast_mul, ← Int.natCast_mul]; omega
  have x2 : ((W * H : Nat) : Int) ≤ 16000000 := by omega
  obtain ⟨p, hpe⟩ : ∃ p, p = P (y * W + x) := ⟨_, rfl⟩
  rw [← hpe] at hp hP ⊢
  clear hfit hN hpe
  go_enter Try.func144, Try.ntmps144
  go_wp2
  go_ret
  exact ⟨rfl, rfl⟩

theorem mul_small' {a b A B : Int} (ha : 0 ≤ a) (hb : 0 ≤ b) (hA : a ≤ A) (hB : b ≤ B) : 0 ≤ a * b ∧ a * b ≤ A * B :=
  ⟨Int.mul_nonneg ha hb, Int.mul_le_mul hA hB hb (by omega)⟩

set_option maxHeartbeats 800000 in
set_option maxRecDepth 100000 in
theorem local2_any (W H x y gb pb po c ab vb rb g : Nat) (c2 : Array Value) (P : Nat → Int) (su mn part : Int) (w : World) (hW : W ≤ 4000) (hH : H ≤ 4000) (hx : x < W) (hy : y < H) (b1 : 0 ≤ su ∧ su ≤ 300000000) (b2 : 1 ≤ mn ∧ mn ≤ 16000000) (hpt : 0 ≤ part ∧ part ≤ 1000)
    (h0 : w.cell? ⟨gb, 0, none⟩ = some (.int .i64 W)) (h2 : w.cell? ⟨gb, 2, none⟩ = some (.slice (some ⟨pb, po, none⟩) (W * H) c)) (hp : w.cell? ⟨pb, po + (y * W + x), none⟩ = some (.int .u8 (P (y * W + x)))) (hP : 0 ≤ P (y * W + x) ∧ P (y * W + x) ≤ 255)
    (eg : ∀ (args : Array Value) (W : World), (callFunc g args).run Try.prog W = .ok (.enter g args) W)
    (h3 : w.cell? ⟨ab, 0, none⟩ = some (.func (.func g) #[] c2)) (h4 : w.cell? ⟨vb, 0, none⟩ = some (.func (.func 144) #[] #[.pointer (some ⟨gb, 0, none⟩)])) (h5 : w.cell? ⟨rb, 0, none⟩ = some (.int .i64 part))
    (hc : Calls Try.prog g (#[.int .i64 x, .int .i64 y] ++ c2) w fun e w' => e = .returned (.tuple #[.int .i64 su, .int .i64 mn]) ∧ Below w.heap.size w w') :
    Calls Try.prog 145 #[.int .i64 x, .int .i64 y, .pointer (some ⟨ab, 0, none⟩), .pointer (some ⟨vb, 0, none⟩), .pointer (some ⟨rb, 0, none⟩)] w fun e w' =>
      e = .returned (.bool (decide (P (y * W + x) * mn * 1000 < su * (1000 - part)))) ∧ Below w.heap.size w w' := by
  have HC := Lib.hid hc
  have hd : ∀ W' n, Below w.heap.size w W' → Calls Try.prog 144 #[.int .i64 x, .int .i64 y, .pointer (some ⟨gb, 0, none⟩)] (W'.drewN n) fun e w' => e = .returned (.int .i64 (P (y * W + x))) ∧ W'.drewN n = w' :=
    fun W' n hb => local1_any W H x y gb pb po c P (W'.drewN n) hW hH hx hy (cell_later (below_drewN hb n) h0) (cell_later (below_drewN hb n) h2) (cell_later (below_drewN hb n) hp) hP
  obtain ⟨p, hpe⟩ : ∃ p, p = P (y * W + x) := ⟨_, rfl⟩
  rw [← hpe] at hP hd ⊢
  have HD := Lib.hid hd
  obtain ⟨m0, m1⟩ := mul_small' hP.1 (by omega : 0 ≤ mn) hP.2 b2.2
  obtain ⟨s0, s1⟩ := mul_small' b1.1 (by omega : 0 ≤ 1000 - part) b1.2 (by omega : 1000 - part ≤ 1000)
  clear hc hd hp hpe
  go_enter Try.func145, Try.ntmps145
  go_wp2_with fail
  go_at_fn g
  refine HC.out.mono ?_
  rintro e w1 ⟨rfl, hb⟩
  have k4 := cell_later hb h4
  have k5 := cell_later hb h5
  have HB := Lib.hid hb
  clear hb h4 h5 h0 h2 h3
  go_wp2_with fail
  go_quiet ((go_at_call 144; (with_reducible refine (HD.out w1 _ HB.out).mono ?_); rintro e w2 ⟨rfl, rfl⟩; exact ⟨rfl, _, rfl⟩))
  go_wp2
  go_ret
  exact ⟨rfl, below_drewN HB.out _⟩

theorem local_bad (a b r part : Int) (p : Option Addr) (n c : Nat) (w : World) (h : pageErr a b n = 0) (hr : ¬ ((1 ≤ r ∧ r ≤ 100) ∧ (0 ≤ part ∧ part ≤ 1000))) :
    Calls Try.prog 84 #[.agg #[.int .i64 a, .int .i64 b, .slice p n c], .int .i64 r, .int .i64 part] w fun e w' => e = .returned (.tuple #[.agg #[.int .i64 0, .int .i64 0, .slice none 0 0], .int .i64 3]) ∧ Below w.heap.size w w' := by
  by_cases h1 : 1 ≤ r ∧ r ≤ 100
  · have H1 := Lib.hid h1
    have H2 := Lib.hid (show ¬ (0 ≤ part ∧ part ≤ 1000) from fun k => hr ⟨h1, k⟩)
    clear hr h1
    go_enter Try.func84, Try.ntmps84
    go_wp2_with (first | (go_at_call 17; refine (checkGray_any _ _ _ _ _ _).mono ?_; rintro e w' ⟨rfl, rfl⟩) | (go_at_call 143; (with_reducible refine (outside_no r 1 100 _ H1.out).mono ?_); rintro e w' ⟨rfl, rfl⟩) | (go_at_call 143; (with_reducible refine (outside_yes part 0 1000 _ H2.out).mono ?_); rintro e w' ⟨rfl, rfl⟩))
    refine bodyPost_ret (v := .tuple #[.agg #[.int .i64 0, .int .i64 0, .slice none 0 0], .int .i64 3]) (by simp [results, Try.results84, go_sem]) rfl ⟨rfl, below_alloc (below_alloc (below_alloc (new_below _ _) _) _) _⟩
  · have H1 := Lib.hid h1
    clear hr h1
    go_enter Try.func84, Try.ntmps84
    go_wp2_with (first | (go_at_call 17; refine (checkGray_any _ _ _ _ _ _).mono ?_; rintro e w' ⟨rfl, rfl⟩) | (go_at_call 143; (with_reducible refine (outside_yes r 1 100 _ H1.out).mono ?_); rintro e w' ⟨rfl, rfl⟩))
    refine bodyPost_ret (v := .tuple #[.agg #[.int .i64 0, .int .i64 0, .slice none 0 0], .int .i64 3]) (by simp [results, Try.results84, go_sem]) rfl ⟨rfl, below_alloc (below_alloc (below_alloc (new_below _ _) _) _) _⟩

set_option maxHeartbeats 800000 in
set_option maxRecDepth 100000 in
theorem local_ok (W H pb po c r : Nat) (part : Int) (P : Nat → Int) (w : World) (he : sizeErr W H = 0) (hr : 1 ≤ r ∧ r ≤ 100) (hpt : 0 ≤ part ∧ part ≤ 1000) (hP : ∀ j, 0 ≤ P j ∧ P j ≤ 255)
    (hp : ∀ j, j < W * H → w.cell? ⟨pb, po + j, none⟩ = some (.int .u8 (P j))) :
    Calls Try.prog 84 #[.agg #[.int .i64 W, .int .i64 H, .slice (some ⟨pb, po, none⟩) (W * H) c], .int .i64 r, .int .i64 part] w fun e w' =>
      ∃ v, e = .returned (.tuple #[.agg #[.int .i64 W, .int .i64 H, v], .int .i64 0]) ∧ w'.ownsRow w.heap.size 4 1 v (W * H) ((places W (localB P W H r part) (W * H)).map Value.bool) ∧ Below w.heap.size w w' := by
  have hmf : ∀ (fn : Fn) (first cap : Array Value) (w : World), (Instr.makeFunc fn first cap).run Try.prog w = .ok (.func fn first cap) w := fun _ _ _ _ => rfl
  obtain ⟨⟨a1, a2, a3, a4⟩, a5, a6⟩ := sizeErr_zero he
  have hpe : pageErr W H (W * H) = 0 := by unfold pageErr; rw [if_pos he, if_pos (by simp [Int.natCast_mul])]
  have hN : W * H ≤ 1048576 := by rw [← Int.natCast_mul] at a6; omega
  clear a5 a6 he
  have HP := Lib.hid hP
  have HC := Lib.hid hp
  have H1 := Lib.hid (show (1 : Int) ≤ (r : Int) ∧ (r : Int) ≤ 100 by omega)
  have H2 := Lib.hid hpt
  clear hp hP
  go_enter Try.func84, Try.ntmps84
  go_wp2_with (first | (go_at_call 17; refine (checkGray_any _ _ _ _ _ _).mono ?_; rintro e w' ⟨rfl, rfl⟩) | (go_at_call 143; (with_reducible refine (outside_no (r : Int) 1 100 _ H1.out).mono ?_); rintro e w' ⟨rfl, rfl⟩) | (go_at_call 143; (with_reducible refine (outside_no part 0 1000 _ H2.out).mono ?_); rintro e w' ⟨rfl, rfl⟩))
  obtain ⟨w3, hw3⟩ : ∃ w3, w3 = ((((w.alloc (.cells #[.int .i64 W, .int .i64 H, .slice (some ⟨pb, po, none⟩) (W * H) c] 27)).alloc (.cells #[.int .i64 part] 3)).alloc (.cells #[.int .i64 0, .int .i64 0, .slice none 0 0] 24)).alloc (.cells #[.int .i64 W, .int .i64 H, .slice (some ⟨pb, po, none⟩) (W * H) c] 27)).alloc (.cells #[.func (.func 144) #[] #[.pointer (some ⟨w.heap.size, 0, none⟩)]] 64) := ⟨_, rfl⟩
  have B3 : Below w.heap.size w w3 := by rw [hw3]; exact below_alloc (below_alloc (below_alloc (below_alloc (new_below _ _) _) _) _) _
  have q0 : w3.cell? ⟨w.heap.size, 0, none⟩ = some (.int .i64 W) := by rw [hw3]; go_simp
  have q1 : w3.cell? ⟨w.heap.size, 1, none⟩ = some (.int .i64 H) := by rw [hw3]; go_simp
  have q2 : w3.cell? ⟨w.heap.size, 2, none⟩ = some (.slice (some ⟨pb, po, none⟩) (W * H) c) := by rw [hw3]; go_simp
  have q3 : w3.cell? ⟨w.heap.size + 1, 0, none⟩ = some (.int .i64 part) := by rw [hw3]; go_simp
  have q4 : w3.cell? ⟨w.heap.size + 1 + 1 + 1 + 1, 0, none⟩ = some (.func (.func 144) #[] #[.pointer (some ⟨w.heap.size, 0, none⟩)]) := by rw [hw3]; go_simp
  have qb : w3.heap[w.heap.size + 1 + 1]? = some (.cells #[.int .i64 0, .int .i64 0, .slice none 0 0] 24 (0, 0)) := by
    rw [hw3, Below.heap_alloc _ _ _ (by simp), Below.heap_alloc _ _ _ (by simp)]
    simpa using heap_alloc_new ((w.alloc (.cells #[.int .i64 W, .int .i64 H, .slice (some ⟨pb, po, none⟩) (W * H) c] 27)).alloc (.cells #[.int .i64 part] 3)) (.cells #[.int .i64 0, .int .i64 0, .slice none 0 0] 24)
  rw [← hw3]
  clear hw3
  have lt1 := Lib.hid (Array.getElem?_eq_some_iff.1 qb).1
  refine (around_any W H r 144 _ P w3 HP.out (by omega) (by omega) (by omega) hN (by omega) (Go.Proofs.enters_of Try.func144 (by kernel_rfl) rfl) ?_).mono ?_
  · intro x y W' hx hy hb
    have hfit := row_fits hy (show x + 1 ≤ W by omega)
    refine (local1_any W H x y w.heap.size pb po c P W' (by omega) (by omega) hx hy (cell_later hb q0) (cell_later hb q2) (cell_later hb (cell_later B3 (HC.out _ (by omega)))) (HP.out _)).mono ?_
    rintro e wy ⟨rfl, rfl⟩
    exact ⟨rfl, Below.refl _ _⟩
  · rintro e w1 ⟨c2, rfl, hb1, hc2⟩
    have k0 := cell_later hb1 q0
    have k1 := cell_later hb1 q1
    have k2 := cell_later hb1 q2
    have k3 := cell_later hb1 q3
    have k4 := cell_later hb1 q4
    have kb := below_block hb1 qb
    have B1 := Lib.hid (below_step B3 hb1)
    have HC2 := Lib.hid hc2
    have HB1 := Lib.hid hb1
    have l0 := World.block_lt_of_cell? _ _ k0
    simp only at l0
    clear q0 q1 q2 q3 q4 qb hb1 hc2
    go_wp2_with fail
    obtain ⟨w4, hw4⟩ : ∃ w4, w4 = w1.alloc (.cells #[.func (.func 174) #[] c2] 127) := ⟨_, rfl⟩
    have B4 : Below w1.heap.size w1 w4 := by rw [hw4]; exact new_below _ _
    have n0 : w4.cell? ⟨w1.heap.size, 0, none⟩ = some (.func (.func 174) #[] c2) := by rw [hw4]; go_simp
    have m0 := cell_later B4 k0
    have m1 := cell_later B4 k1
    have m2 := cell_later B4 k2
    have m3 := cell_later B4 k3
    have m4 := cell_later B4 k4
    have mb := below_block B4 kb
    rw [← hw4]
    clear hw4 k0 k1 k2 k3 k4 kb
    refine (fillBool_any W H 145 _ (localB P W H r part) w4 (by omega) (by omega) (by omega) (by omega) (Go.Proofs.enters_of Try.func145 (by kernel_rfl) rfl) ?_).mono ?_
    · intro x y wx hx hy hbx
      have hfit := row_fits hy (show x + 1 ≤ W by omega)
      exact local2_any W H x y w.heap.size pb po c w1.heap.size (w.heap.size + 1 + 1 + 1 + 1) (w.heap.size + 1) 174 c2 P _ _ part wx (by omega) (by omega) hx hy (squareSum_bounds P HP.out W H r x y (by omega) (by omega) hN) (squareMany_bounds W H r x y hx hy (by omega) (by omega)) H2.out
        (cell_later hbx m0) (cell_later hbx m2) (cell_later hbx (cell_later B4 (cell_later B1.out (HC.out _ (by omega))))) (HP.out _) (Go.Proofs.enters_of Try.func174 (by kernel_rfl) rfl) (cell_later hbx n0) (cell_later hbx m4) (cell_later hbx m3) (HC2.out x y wx hx hy (below_step B4 hbx))
    · rintro e w5 ⟨v, rfl, hown, hb5⟩
      obtain ⟨j0, j1, j2, r0, r1, r2⟩ := block3 (below_block hb5 mb)
      obtain ⟨va, vn, vc, rfl⟩ := owns_shape hown
      have k0 := cell_later hb5 m0
      have k1 := cell_later hb5 m1
      have F := Lib.hid hown
      have G := Lib.hid hb5
      have L1 := Lib.hid (Nat.lt_of_lt_of_le lt1.out (Nat.le_trans HB1.out.size B4.size))
      have S1 := Lib.hid B4.size
      have S2 := Lib.hid B4
      clear hown hb5 m0 m1 m2 m3 m4 mb n0 B4 B3
      go_wp2_with fail
      refine bodyPost_ret (v := .tuple #[.agg #[.int .i64 W, .int .i64 H, .slice va vn vc], .int .i64 0]) (by simp [results, Try.results84, go_sem, j0, j1, j2]) rfl ⟨_, rfl, owns_far3 F.out L1.out (Nat.le_trans B1.out.size S1.out), below_far3 (below_step (below_step B1.out S2.out) G.out) (by omega)⟩

end Go.Proofs.Ytejhmobpepllcaa
