/-
  MeansMatch returns true for every page in grey and every radius, and each argument reads afterwards as it read before. No conditions.
-/
import Derived.Test.YtlpdgnhlhopmjaaRows
import Derived.WalkKit
import Derived.WalkSpells
import Derived.WalkLawsBesides
import Derived.Lib.Hide
import Derived.Deep.RegionHeld3
import Derived.Shelf.Abstract
import Derived.Lib.MinMax
import Derived.Deep.QuietTactic
import Derived.BigQuiet
import Derived.Deep.CutRange
import Derived.Deep.DeepCutAuto
import Derived.Laws.EntriesVeiled
import Derived.StillTailTactics
import Derived.ProofKit
import Derived.OpenShut
import Derived.ShutString
import Derived.ChangeOld
import Derived.Lib.SmallJoins
import Derived.Deep.Grids
import Derived.Test.YtlpdgnhlhopmjaaCMeans1
namespace Go.Proofs.Ytlpdgnhlhopmjaa
open Go.RowKit
set_option linter.unusedSimpArgs false
set_option linter.unusedVariables false

theorem rounded_any (a b : Int) (w : World) (h0 : 0 ≤ a) (h1 : a ≤ 1000000000000) (h2 : 1 ≤ b) (h3 : b ≤ 1000000000000) :
    Calls Try.prog 30 #[.int .i64 a, .int .i64 b] w fun r w' => r = .returned (.int .i64 ((2 * a + b) / (2 * b))) ∧ w = w' := by
  go_enter Try.func30, Try.ntmps30
  go_wp2
  go_ret
  exact ⟨rfl, rfl⟩

theorem down_any (a b : Int) (w : World) (h0 : 0 ≤ a) (h1 : a ≤ 10000000000000) (h2 : 1 ≤ b) (h3 : b ≤ 10000000000000) :
    Calls Try.prog 33 #[.int .i64 a, .int .i64 b] w fun r w' => r = .returned (.int .i64 (a / b)) ∧ w = w' := by
  have hq : 0 ≤ a / b := Int.ediv_nonneg h0 (by omega)
  have hm : a / b * b ≤ a := Int.ediv_mul_le a (by omega)
  have hm0 : 0 ≤ a / b * b := Int.mul_nonneg hq (by omega)
  go_enter Try.func33, Try.ntmps33
  go_wp2
  refine wp_loop_rounds 1 ?_
  rw [rounds_succ]
  go_wp2
  go_ret
  exact ⟨rfl, rfl⟩

theorem round_any (a b : Int) (w : World) (h0 : 0 ≤ a) (h1 : a ≤ 1000000000000) (h2 : 1 ≤ b) (h3 : b ≤ 1000000000000) :
    Calls Try.prog 12 #[.int .i64 a, .int .i64 b] w fun r w' => r = .returned (.int .i64 ((2 * a + b) / (2 * b))) ∧ w = w' := by
  go_enter Try.func12, Try.ntmps12
  go_wp2_with (go_at_call 33; refine (down_any _ _ _ (by omega) (by omega) (by omega) (by omega)).mono ?_; rintro e w' ⟨rfl, rfl⟩)
  go_ret
  exact ⟨rfl, rfl⟩

end Go.Proofs.Ytlpdgnhlhopmjaa
namespace Go.Proofs.Ytlpdgnhlhopmjaa
open Go.RowKit
set_option linter.unusedSimpArgs false
set_option linter.unusedVariables false

/-- The mean of the square around (x, y), as far as it is in the page, rounded. -/
def meanAt (P : Nat → Int) (W H r x y : Nat) : Int :=
  (2 * rectSum P W (y - r) (x - r) (min (x + r + 1) W - (x - r)) (min (y + r + 1) H - (y - r)) + (((min (x + r + 1) W : Nat) : Int) - ((x - r : Nat) : Int)) * (((min (y + r + 1) H : Nat) : Int) - ((y - r : Nat) : Int))) /
    (2 * ((((min (x + r + 1) W : Nat) : Int) - ((x - r : Nat) : Int)) * (((min (y + r + 1) H : Nat) : Int) - ((y - r : Nat) : Int))))

theorem means_badPage (a b r : Int) (p : Option Addr) (n c : Nat) (w : World) (h : pageErr a b n ≠ 0) :
    Calls Try.prog 6 #[.agg #[.int .i64 a, .int .i64 b, .slice p n c], .int .i64 r] w fun e w' => e = .returned (.tuple #[.slice none 0 0, .int .i64 (pageErr a b n)]) ∧ Below w.heap.size w w' := by
  have h' : (pageErr a b n != 0) = true := by simpa using h
  clear h
  go_enter Try.func6, Try.ntmps6
  go_wp2_with ((go_at_call 24; refine (checkGray_any _ _ _ _ _ _).mono ?_; rintro e w' ⟨rfl, rfl⟩))
  go_ret2
  exact ⟨rfl, below_alloc (new_below _ _) _⟩

theorem means_badRadius (a b r : Int) (p : Option Addr) (n c : Nat) (w : World) (h : pageErr a b n = 0) (hr : ¬ (0 ≤ r ∧ r ≤ 200)) :
    Calls Try.prog 6 #[.agg #[.int .i64 a, .int .i64 b, .slice p n c], .int .i64 r] w fun e w' => e = .returned (.tuple #[.slice none 0 0, .int .i64 3]) ∧ Below w.heap.size w w' := by
  have HR := Lib.hid hr
  clear hr
  go_enter Try.func6, Try.ntmps6
  go_wp2_with (first | (go_at_call 24; refine (checkGray_any _ _ _ _ _ _).mono ?_; rintro e w' ⟨rfl, rfl⟩) | (go_at_call 25; (with_reducible refine (outside_yes r 0 200 _ HR.out).mono ?_); rintro e w' ⟨rfl, rfl⟩))
  go_ret2
  exact ⟨rfl, below_alloc (new_below _ _) _⟩

/-- The closure that tells a page's values. -/
theorem means1_any (W H x y gb pb po c : Nat) (P : Nat → Int) (w : World) (hW : W ≤ 4000) (hH : H ≤ 4000) (hx : x < W) (hy : y < H)
    (h0 : w.cell? ⟨gb, 0, none⟩ = some (.int .i64 W)) (h2 : w.cell? ⟨gb, 2, none⟩ = some (.slice (some ⟨pb, po, none⟩) (W * H) c)) (hp : w.cell? ⟨pb, po + (y * W + x), none⟩ = some (.int .u8 (P (y * W + x)))) (hP : 0 ≤ P (y * W + x) ∧ P (y * W + x) ≤ 255) :
    Calls Try.prog 27 #[.int .i64 x, .int .i64 y, .pointer (some ⟨gb, 0, none⟩)] w fun e w' => e = .returned (.int .i64 (P (y * W + x))) ∧ w = w' := by
  have hfit := row_fits hy (show x + 1 ≤ W by omega)
  have hN := Nat.mul_le_mul hW hH
  have x0 : (0 : Int) ≤ (y : Int) * (W : Int) := Int.mul_nonneg (by omega) (by omega)
  have x1 : (y : Int) * (W : Int) + (x : Int) < ((W * H : Nat) : Int) := by rw [← Int.natCast_mul]; omega
  have x3 : (y : Int) * (W : Int) + (x : Int) < (W : Int) * (H : Int) := by rw [← Int.natCast_mul, ← Int.natCast_mul]; omega
  have x2 : ((W * H : Nat) : Int) ≤ 16000000 := by omega
  obtain ⟨p, hpe⟩ : ∃ p, p = P (y * W + x) := ⟨_, rfl⟩
  rw [← hpe] at hp hP ⊢
  clear hfit hN hpe
  go_enter Try.func27, Try.ntmps27
  go_wp2
  go_ret
  exact ⟨rfl, rfl⟩

set_option maxRecDepth 100000 in
theorem means2_any (x y ab g : Nat) (c2 : Array Value) (su mn : Int) (w : World) (b1 : 0 ≤ su ∧ su ≤ 300000000) (b2 : 1 ≤ mn ∧ mn ≤ 16000000)
    (eg : ∀ (args : Array Value) (W : World), (callFunc g args).run Try.prog W = .ok (.enter g args) W)
    (h0 : w.cell? ⟨ab, 0, none⟩ = some (.func (.func g) #[] c2))
    (hc : Calls Try.prog g (#[.int .i64 x, .int .i64 y] ++ c2) w fun e w' => e = .returned (.tuple #[.int .i64 su, .int .i64 mn]) ∧ Below w.heap.size w w') :
    Calls Try.prog 29 #[.int .i64 x, .int .i64 y, .pointer (some ⟨ab, 0, none⟩)] w fun e w' => e = .returned (.int .i64 ((2 * su + mn) / (2 * mn))) ∧ Below w.heap.size w w' := by
  have HC := Lib.hid hc
  clear hc
  go_enter Try.func29, Try.ntmps29
  go_wp2_with (first | (go_at_fn g; refine HC.out.mono ?_; rintro e w1 ⟨rfl, hb⟩) | (go_at_call 30; refine (rounded_any _ _ _ (by omega) (by omega) (by omega) (by omega)).mono ?_; rintro e w2 ⟨rfl, rfl⟩))
  go_ret
  exact ⟨rfl, hb⟩

set_option maxHeartbeats 800000 in
set_option maxRecDepth 100000 in
theorem means_ok (W H pb po c r : Nat) (P : Nat → Int) (w : World) (he : sizeErr W H = 0) (hr : r ≤ 200) (hP : ∀ j, 0 ≤ P j ∧ P j ≤ 255) 
    (hp : ∀ j, j < W * H → w.cell? ⟨pb, po + j, none⟩ = some (.int .u8 (P j))) :
    Calls Try.prog 6 #[.agg #[.int .i64 W, .int .i64 H, .slice (some ⟨pb, po, none⟩) (W * H) c], .int .i64 r] w fun e w' => ∃ v, e = .returned (.tuple #[v, .int .i64 0]) ∧
      w'.ownsRow w.heap.size 3 1 v (W * H) ((places W (meanAt P W H r) (W * H)).map (Value.int .i64)) ∧ Below w.heap.size w w' := by
  have hmf : ∀ (fn : Fn) (first cap : Array Value) (w : World), (Instr.makeFunc fn first cap).run Try.prog w = .ok (.func fn first cap) w := fun _ _ _ _ => rfl
  obtain ⟨⟨a1, a2, a3, a4⟩, a5, a6⟩ := sizeErr_zero he
  have hpe : pageErr W H (W * H) = 0 := by unfold pageErr; rw [if_pos he, if_pos (by simp [Int.natCast_mul])]
  have hN : W * H ≤ 1048576 := by rw [← Int.natCast_mul] at a6; omega
  clear a5 a6
  have HP := Lib.hid hP
  have HC := Lib.hid hp
  have HRR := Lib.hid (show (0 : Int) ≤ (r : Int) ∧ (r : Int) ≤ 200 by omega)
  clear hP hp
  go_enter Try.func6, Try.ntmps6
  go_wp2_with (first | (go_at_call 24; refine (checkGray_any _ _ _ _ _ _).mono ?_; rintro e w' ⟨rfl, rfl⟩) | (go_at_call 25; (with_reducible refine (outside_no r 0 200 _ HRR.out).mono ?_); rintro e w' ⟨rfl, rfl⟩) | fail)
  obtain ⟨w3, hw3⟩ : ∃ w3, w3 = ((w.alloc (.cells #[.int .i64 W, .int .i64 H, .slice (some ⟨pb, po, none⟩) (W * H) c] 24)).alloc (.cells #[.int .i64 W, .int .i64 H, .slice (some ⟨pb, po, none⟩) (W * H) c] 24)) := ⟨_, rfl⟩
  have B3 : Below w.heap.size w w3 := by rw [hw3]; exact below_alloc (new_below _ _) _
  have q0 : w3.cell? ⟨w.heap.size, 0, none⟩ = some (.int .i64 W) := by rw [hw3]; go_simp
  have q1 : w3.cell? ⟨w.heap.size, 1, none⟩ = some (.int .i64 H) := by rw [hw3]; go_simp
  have q2 : w3.cell? ⟨w.heap.size, 2, none⟩ = some (.slice (some ⟨pb, po, none⟩) (W * H) c) := by rw [hw3]; go_simp
  rw [← hw3]
  clear hw3
  refine (around_any W H r 27 _ P w3 HP.out (by omega) (by omega) (by omega) hN hr (Go.Proofs.enters_of Try.func27 (by kernel_rfl) rfl) ?_).mono ?_
  · intro x y W' hx hy hb
    have hfit := row_fits hy (show x + 1 ≤ W by omega)
    refine (means1_any W H x y w.heap.size pb po c P W' (by omega) (by omega) hx hy (cell_later hb q0) (cell_later hb q2) (cell_later hb (cell_later B3 (HC.out _ (by omega)))) (HP.out _)).mono ?_
    rintro e wy ⟨rfl, rfl⟩
    exact ⟨rfl, Below.refl _ _⟩
  · rintro e w1 ⟨c2, rfl, hb1, hc2⟩
    have k0 := cell_later hb1 q0
    have k1 := cell_later hb1 q1
    have B1 := Lib.hid (below_step B3 hb1)
    have HC2 := Lib.hid hc2
    have l0 := World.block_lt_of_cell? _ _ k0
    simp only at l0
    clear q0 q1 q2 hb1 hc2 B3
    go_wp2_with fail
    obtain ⟨w4, hw4⟩ : ∃ w4, w4 = w1.alloc (.cells #[.func (.func 51) #[] c2] 50) := ⟨_, rfl⟩
    have B4 : Below w1.heap.size w1 w4 := by rw [hw4]; exact new_below _ _
    have n0 : w4.cell? ⟨w1.heap.size, 0, none⟩ = some (.func (.func 51) #[] c2) := by rw [hw4]; go_simp
    rw [← hw4]
    clear hw4
    refine (fillInt_any W H 29 _ (meanAt P W H r) w4 (by omega) (by omega) (by omega) (by omega) (Go.Proofs.enters_of Try.func29 (by kernel_rfl) rfl) ?_).mono ?_
    · intro x y wx hx hy hbx
      exact means2_any x y w1.heap.size 51 c2 _ _ wx (squareSum_bounds P HP.out W H r x y (by omega) (by omega) hN) (squareMany_bounds W H r x y hx hy (by omega) (by omega)) (Go.Proofs.enters_of Try.func51 (by kernel_rfl) rfl) (cell_later hbx n0) (HC2.out x y wx hx hy (below_step B4 hbx))
    · rintro e w5 ⟨v, rfl, hown, hb5⟩
      have F := Lib.hid hown
      have G := Lib.hid hb5
      clear hown hb5
      go_wp2
      go_ret2
      exact ⟨v, rfl, owns_base F.out (Nat.le_trans B1.out.size B4.size), below_step (below_step B1.out B4) G.out⟩

end Go.Proofs.Ytlpdgnhlhopmjaa
namespace Go.Proofs.Ytlpdgnhlhopmjaa
open Go.RowKit
set_option linter.unusedSimpArgs false
set_option linter.unusedVariables false

set_option maxRecDepth 100000 in
theorem equalInt_true (g1 o1 g2 o2 n c1 c2 : Nat) (z : Nat → Int) (w : World) (hn : n ≤ 100000000)
    (h1 : ∀ j, j < n → w.cell? ⟨g1, o1 + j, none⟩ = some (.int .i64 (z j))) (h2 : ∀ j, j < n → w.cell? ⟨g2, o2 + j, none⟩ = some (.int .i64 (z j))) :
    Calls Try.prog 13 #[.slice (some ⟨g1, o1, none⟩) n c1, .slice (some ⟨g2, o2, none⟩) n c2] w fun e w' => e = .returned (.bool true) ∧ ∃ q, w' = w.drewN q := by
  have H1 := Lib.hid h1
  have H2 := Lib.hid h2
  clear h1 h2
  go_enter Try.func13, Try.ntmps13
  go_wp2
  go_loopw [13] (fun i wr => ∃ k q : Nat, k ≤ n ∧ i = .int .i64 k ∧ wr = w.drewN q) (fun i _ => n - (intOf i).toNat)
  case atStart => exact ⟨0, 0, Nat.zero_le _, rfl, rfl⟩
  case round =>
    obtain ⟨k, q, hk, rfl, rfl⟩ := hrel
    by_cases hlt : k < n
    · have e1 := H1.out k hlt
      have e2 := H2.out k hlt
      generalize z k = x at e1 e2
      have i1 : (k : Int) < (n : Int) := by omega
      have i0 : (0 : Int) ≤ (k : Int) := by omega
      go_wp2
      go_quiet (fail)
      go_wp2
      go_roundw
      case rel => exact ⟨k + 1, _, by omega, by go_num, rfl⟩
      case measure => simp [intOf]; omega
    · go_wp2
      go_ret
      exact ⟨rfl, q, rfl⟩

end Go.Proofs.Ytlpdgnhlhopmjaa
namespace Go.Proofs.Ytlpdgnhlhopmjaa
open Go.RowKit
set_option linter.unusedSimpArgs false
set_option linter.unusedVariables false

theorem orI_left {a b : Int} (h : a ≠ 0) : orI a b = a := by unfold orI; rw [if_neg h]

set_option maxHeartbeats 1000000 in
set_option maxRecDepth 100000 in
theorem mm_badPage (a b r : Int) (p : Option Addr) (n c : Nat) (w : World) (h : pageErr a b n ≠ 0) :
    Calls Try.prog 3 #[.agg #[.int .i64 a, .int .i64 b, .slice p n c], .int .i64 r] w fun e w' => e = .returned (.bool true) ∧ Below w.heap.size w w' := by
  have h' : (pageErr a b n != 0) = true := by simpa using h
  have HO : ∀ y, orI (pageErr a b n) y = pageErr a b n := fun y => orI_left h
  have HH := Lib.hid h
  clear h
  go_enter Try.func3, Try.ntmps3
  go_wp2_with fail
  obtain ⟨w0, hw0⟩ : ∃ w0, w0 = w.alloc (.cells #[.int .i64 a, .int .i64 b, .slice p n c] 24) := ⟨_, rfl⟩
  have B0 : Below w.heap.size w w0 := by rw [hw0]; exact new_below _ _
  have q0 : w0.cell? ⟨w.heap.size, 0, none⟩ = some (.int .i64 a) := by rw [hw0]; go_simp
  have q1 : w0.cell? ⟨w.heap.size, 1, none⟩ = some (.int .i64 b) := by rw [hw0]; go_simp
  have q2 : w0.cell? ⟨w.heap.size, 2, none⟩ = some (.slice p n c) := by rw [hw0]; go_simp
  rw [← hw0]
  clear hw0
  refine (means_badPage a b r p n c w0 HH.out).mono ?_
  rintro e w1 ⟨rfl, hb1⟩
  have k0 := cell_later hb1 q0
  have k1 := cell_later hb1 q1
  have k2 := cell_later hb1 q2
  have B1 := below_step B0 hb1
  clear q0 q1 q2 B0 hb1
  go_wp2_with fail
  refine (grayError_any _ _ _ _ _ _).mono ?_
  rintro e w2 ⟨rfl, hb2⟩
  have B2 := below_step B1 hb2
  clear k0 k1 k2 B1 hb2
  go_wp2_with (first | (go_at_call 10; refine (in_any _ _ _ _).mono ?_; rintro e w' ⟨rfl, rfl⟩) | (go_at_call 9; refine (when_any _ _ _).mono ?_; rintro e w' ⟨rfl, rfl⟩) | (go_at_call 7; refine (first2_new _ _ _).mono ?_; rintro e w' ⟨rfl, rfl⟩))
  refine (pages_any _).mono ?_
  rintro e w3 ⟨rfl, hb3⟩
  have B3 := below_step (below_alloc B2 _) hb3
  clear B2 hb3
  go_wp2_with fail
  refine (pages_any _).mono ?_
  rintro e w4 ⟨rfl, hb4⟩
  have B4 := below_step B3 hb4
  clear B3 hb4
  go_wp2_with fail
  go_ret
  exact ⟨rfl, B4⟩

set_option maxHeartbeats 1000000 in
set_option maxRecDepth 100000 in
theorem mm_badRadius (a b r : Int) (p : Option Addr) (n c : Nat) (w : World) (h : pageErr a b n = 0) (hr : ¬ (0 ≤ r ∧ r ≤ 200)) :
    Calls Try.prog 3 #[.agg #[.int .i64 a, .int .i64 b, .slice p n c], .int .i64 r] w fun e w' => e = .returned (.bool true) ∧ Below w.heap.size w w' := by
  have HH := Lib.hid h
  have HR := Lib.hid hr
  have hd : decide (0 ≤ r ∧ r ≤ 200) = false := decide_eq_false hr
  have ho : orI 0 (whenI true 3) = 3 := rfl
  clear hr
  go_enter Try.func3, Try.ntmps3
  go_wp2_with fail
  obtain ⟨w0, hw0⟩ : ∃ w0, w0 = w.alloc (.cells #[.int .i64 a, .int .i64 b, .slice p n c] 24) := ⟨_, rfl⟩
  have B0 : Below w.heap.size w w0 := by rw [hw0]; exact new_below _ _
  have q0 : w0.cell? ⟨w.heap.size, 0, none⟩ = some (.int .i64 a) := by rw [hw0]; go_simp
  have q1 : w0.cell? ⟨w.heap.size, 1, none⟩ = some (.int .i64 b) := by rw [hw0]; go_simp
  have q2 : w0.cell? ⟨w.heap.size, 2, none⟩ = some (.slice p n c) := by rw [hw0]; go_simp
  rw [← hw0]
  clear hw0
  refine (means_badRadius a b r p n c w0 HH.out HR.out).mono ?_
  rintro e w1 ⟨rfl, hb1⟩
  have k0 := cell_later hb1 q0
  have k1 := cell_later hb1 q1
  have k2 := cell_later hb1 q2
  have B1 := below_step B0 hb1
  clear q0 q1 q2 B0 hb1
  go_wp2_with fail
  refine (grayError_any _ _ _ _ _ _).mono ?_
  rintro e w2 ⟨rfl, hb2⟩
  have B2 := below_step B1 hb2
  clear k0 k1 k2 B1 hb2
  go_wp2_with (first | (go_at_call 10; refine (in_any _ _ _ _).mono ?_; rintro e w' ⟨rfl, rfl⟩) | (go_at_call 9; refine (when_any _ _ _).mono ?_; rintro e w' ⟨rfl, rfl⟩) | (go_at_call 7; refine (first2_new _ _ _).mono ?_; rintro e w' ⟨rfl, rfl⟩))
  refine (pages_any _).mono ?_
  rintro e w3 ⟨rfl, hb3⟩
  have B3 := below_step (below_alloc B2 _) hb3
  clear B2 hb3
  go_wp2_with fail
  refine (pages_any _).mono ?_
  rintro e w4 ⟨rfl, hb4⟩
  have B4 := below_step B3 hb4
  clear B3 hb4
  go_wp2_with fail
  go_ret
  exact ⟨rfl, B4⟩

end Go.Proofs.Ytlpdgnhlhopmjaa
namespace Go.Proofs.Ytlpdgnhlhopmjaa
open Go.RowKit
set_option linter.unusedSimpArgs false
set_option linter.unusedVariables false

theorem mm_step (P : Nat → Int) (W H T L Rm Bm j i : Nat) (ss sv mm mv p : Int) (hP : ∀ j, 0 ≤ P j ∧ P j ≤ 255) (hp : p = P (j * W + i))
    (hjs : Hid (ss = rectSum P W T L (Rm + 1 - L) (j - T) ∧ mm = (((Rm + 1 - L) * (j - T) : Nat) : Int))) (his : Hid (sv = ss + rowSum P (j * W + L) (i - L) ∧ mv = mm + ((i - L : Nat) : Int)))
    (u3 : True ∨ True) (u5 : Bm < H) (u6 : Rm < W) (hj1 : T ≤ j) (hj2 : j ≤ Bm + 1) (hi1 : L ≤ i) (hi2 : i ≤ Rm) (hj3 : j ≤ Bm) (hN : W * H ≤ 1048576) (hW : W ≤ 4000) (hH : H ≤ 4000) :
    (sv + p = ss + rowSum P (j * W + L) (i + 1 - L) ∧ mv + 1 = mm + ((i + 1 - L : Nat) : Int)) ∧ sv + p ≤ 300000000 ∧ mv + 1 ≤ 16000000 := by
  obtain ⟨e1, e2⟩ := hjs.out
  obtain ⟨e3, e4⟩ := his.out
  have h1 : rowSum P (j * W + L) (i + 1 - L) = rowSum P (j * W + L) (i - L) + P (j * W + i) := by
    rw [show i + 1 - L = (i - L) + 1 by omega, rowSum, show j * W + L + (i - L) = j * W + i by omega]
  have b1 := rectSum_bounds P hP W T L (Rm + 1 - L) (j - T)
  have b2 := rowSum_bounds P hP (j * W + L) (i + 1 - L)
  have b3 := Nat.mul_le_mul (show Rm + 1 - L ≤ W by omega) (show j - T ≤ H by omega)
  refine ⟨⟨by omega, by omega⟩, by omega, by omega⟩

theorem mm_row (P : Nat → Int) (W H T L Rm Bm j i : Nat) (ss sv mm mv : Int) (hP : ∀ j, 0 ≤ P j ∧ P j ≤ 255)
    (hjs : Hid (ss = rectSum P W T L (Rm + 1 - L) (j - T) ∧ mm = (((Rm + 1 - L) * (j - T) : Nat) : Int))) (his : Hid (sv = ss + rowSum P (j * W + L) (i - L) ∧ mv = mm + ((i - L : Nat) : Int)))
    (u3 : True ∨ True) (u5 : Bm < H) (u6 : Rm < W) (hj1 : T ≤ j) (hj2 : j ≤ Bm + 1) (hi : i = Rm + 1) (hl : L ≤ Rm) :
    sv = rectSum P W T L (Rm + 1 - L) (j + 1 - T) ∧ mv = (((Rm + 1 - L) * (j + 1 - T) : Nat) : Int) := by
  obtain ⟨e1, e2⟩ := hjs.out
  obtain ⟨e3, e4⟩ := his.out
  subst hi
  rw [show j + 1 - T = (j - T) + 1 by omega]
  refine ⟨?_, ?_⟩
  · rw [rectSum, show T + (j - T) = j by omega]; omega
  · rw [Nat.mul_add, Nat.mul_one]; omega

theorem mm_end (P : Nat → Int) (W H T L Rm Bm j r x y : Nat) (ss mm : Int)
    (hjs : Hid (ss = rectSum P W T L (Rm + 1 - L) (j - T) ∧ mm = (((Rm + 1 - L) * (j - T) : Nat) : Int))) (hj : j = Bm + 1)
    (hT : T = y - r) (hL : L = x - r) (hB : Bm = min (H - 1) (y + r)) (hR : Rm = min (W - 1) (x + r)) (hx : x < W) (hy : y < H) :
    1 ≤ mm ∧ (2 * ss + mm) / (2 * mm) = meanAt P W H r x y := by
  obtain ⟨e1, e2⟩ := hjs.out
  have h1 : Rm + 1 - L = min (x + r + 1) W - (x - r) := by omega
  have h2 : j - T = min (y + r + 1) H - (y - r) := by omega
  have h3 : mm = (((min (x + r + 1) W : Nat) : Int) - ((x - r : Nat) : Int)) * (((min (y + r + 1) H : Nat) : Int) - ((y - r : Nat) : Int)) := by
    have c1 : ((min (x + r + 1) W - (x - r) : Nat) : Int) = ((min (x + r + 1) W : Nat) : Int) - ((x - r : Nat) : Int) := by omega
    have c2 : ((min (y + r + 1) H - (y - r) : Nat) : Int) = ((min (y + r + 1) H : Nat) : Int) - ((y - r : Nat) : Int) := by omega
    rw [e2, h1, h2, Int.natCast_mul, c1, c2]
  refine ⟨?_, ?_⟩
  · rw [e2]
    have := Nat.mul_pos (show 0 < Rm + 1 - L by omega) (show 0 < j - T by omega)
    omega
  · unfold meanAt
    rw [← h3, e1, h1, h2, hT, hL]

set_option maxHeartbeats 2000000 in
set_option maxRecDepth 100000 in
theorem mm_ok (W H pb po c r : Nat) (P : Nat → Int) (w : World) (he : sizeErr W H = 0) (hr : r ≤ 200) (hP : ∀ j, 0 ≤ P j ∧ P j ≤ 255) 
    (hp : ∀ j, j < W * H → w.cell? ⟨pb, po + j, none⟩ = some (.int .u8 (P j))) :
    Calls Try.prog 3 #[.agg #[.int .i64 W, .int .i64 H, .slice (some ⟨pb, po, none⟩) (W * H) c], .int .i64 r] w fun e w' => e = .returned (.bool true) ∧ Below w.heap.size w w' := by
  obtain ⟨⟨a1, a2, a3, a4⟩, a5, a6⟩ := sizeErr_zero he
  have hpe : pageErr W H (W * H) = 0 := by unfold pageErr; rw [if_pos he, if_pos (by simp [Int.natCast_mul])]
  have hN : W * H ≤ 1048576 := by rw [← Int.natCast_mul] at a6; omega
  clear a5 a6
  have HE := Lib.hid he
  have HP := Lib.hid hP
  have HC := Lib.hid hp
  have ho : orI 0 (whenI false 3) = 0 := rfl
  clear he hP hp
  go_enter Try.func3, Try.ntmps3
  go_wp2_with fail
  obtain ⟨w0, hw0⟩ : ∃ w0, w0 = w.alloc (.cells #[.int .i64 W, .int .i64 H, .slice (some ⟨pb, po, none⟩) (W * H) c] 24) := ⟨_, rfl⟩
  have B0 : Below w.heap.size w w0 := by rw [hw0]; exact new_below _ _
  have q0 : w0.cell? ⟨w.heap.size, 0, none⟩ = some (.int .i64 W) := by rw [hw0]; go_simp
  have q1 : w0.cell? ⟨w.heap.size, 1, none⟩ = some (.int .i64 H) := by rw [hw0]; go_simp
  have q2 : w0.cell? ⟨w.heap.size, 2, none⟩ = some (.slice (some ⟨pb, po, none⟩) (W * H) c) := by rw [hw0]; go_simp
  rw [← hw0]
  clear hw0
  refine (means_ok W H pb po c r P w0 HE.out hr HP.out (fun j hj => cell_later B0 (HC.out j hj))).mono ?_
  rintro e w1 ⟨v, rfl, hown1, hb1⟩
  obtain ⟨g1, cap1, rfl⟩ : ∃ g cap, v = .slice (some ⟨g, 0, none⟩) (W * H) cap := by
    rcases hown1.2 with ⟨_, h0⟩ | ⟨g, cap, cur, rfl, _⟩
    · have := Nat.mul_pos (show 0 < W by omega) (show 0 < H by omega)
      omega
    · exact ⟨g, cap, rfl⟩
  have hl : ∀ j, j < W * H → w1.cell? ⟨g1, j, none⟩ = some (.int .i64 (meanAt P W H r (j % W) (j / W))) := fun j hj => by
    rw [hown1.cellAt j (by omega)]
    simp [places, List.getElem?_range hj]
  have k0 := cell_later hb1 q0
  have k1 := cell_later hb1 q1
  have k2 := cell_later hb1 q2
  have B1 := below_step B0 hb1
  clear q0 q1 q2 B0 hb1 hown1
  have HL := Lib.hid hl
  clear hl
  go_wp2_with fail
  refine (grayError_any _ _ _ _ _ _).mono ?_
  rintro e w2 ⟨rfl, hb2⟩
  have q0 := cell_later hb2 k0
  have q1 := cell_later hb2 k1
  have q2 := cell_later hb2 k2
  have l0 := World.block_lt_of_cell? _ _ q0
  have B2 := below_step B1 hb2
  have C2 := hb2
  clear k0 k1 k2 B1 hb2
  simp only at l0
  go_wp2_with (first | (go_at_call 10; refine (in_yes _ _ _ _ (by omega)).mono ?_; rintro e w' ⟨rfl, rfl⟩) | (go_at_call 9; refine (when_any _ _ _).mono ?_; rintro e w' ⟨rfl, rfl⟩) | (go_at_call 7; refine (first2_new _ _ _).mono ?_; rintro e w' ⟨rfl, rfl⟩))
  have D2 := below_step C2 (new_below w2 (.cells #[.int .i64 0, .int .i64 (whenI false 3)] 26))
  refine (pages_any _).mono ?_
  rintro e w3 ⟨rfl, hb3⟩
  have k0 := cell_later (below_step (new_below _ _) hb3) q0
  have k1 := cell_later (below_step (new_below _ _) hb3) q1
  have k2 := cell_later (below_step (new_below _ _) hb3) q2
  have B3 := below_step (below_alloc B2 _) hb3
  have C3 := below_step (below_alloc C2 _) hb3
  clear B2 hb3 C2 D2 q0 q1 q2
  by_cases hbig : 400 < W * H
  · have hb4 : (400 : Int) < (W : Int) * (H : Int) := by rw [← Int.natCast_mul]; omega
    go_wp2_with fail
    go_ret
    exact ⟨rfl, B3⟩
  have hb4 : (W : Int) * (H : Int) ≤ 400 := by rw [← Int.natCast_mul]; omega
  obtain ⟨i0, hi, hz0, hz1, hz2⟩ := info_parts info_int
  have hpw : ∀ j, j < W * H → w3.cell? ⟨pb, po + j, none⟩ = some (.int .u8 (P j)) := fun j hj => cell_later B3 (HC.out j hj)
  have hlw : ∀ j, j < W * H → w3.cell? ⟨g1, j, none⟩ = some (.int .i64 (meanAt P W H r (j % W) (j / W))) := fun j hj => cell_later C3 (HL.out j hj)
  have HPW := Lib.hid hpw
  have HLW := Lib.hid hlw
  have HB3 := Lib.hid B3
  clear hpw hlw HC HL C3 B3 l0 hpe ho
  go_wp2_with fail
  go_loopw [8, 54] (fun v i wr => ∃ y : Nat, y ≤ H ∧ i = .int .i64 y ∧ wr.ownsRow w3.heap.size 3 1 v (y * W) ((places W (meanAt P W H r) (y * W)).map (Value.int .i64)) ∧ Below w3.heap.size w3 wr) (fun _ i _ => H - (intOf i).toNat)
  case atStart => exact ⟨0, Nat.zero_le _, rfl, by simpa [places] using World.ownsRow_nil _ _ _ _, Below.refl _ _⟩
  case round =>
    obtain ⟨y, hy, rfl, hown, hb⟩ := hrel
    have c0 := cell_later hb k0
    have c1 := cell_later hb k1
    by_cases hlt : y < H
    · obtain ⟨wo, rfl⟩ : ∃ wo : World, wo = wr := ⟨_, rfl⟩
      go_wp2_with fail
      go_loopw [8, 59] (fun v i wr => ∃ x : Nat, x ≤ W ∧ i = .int .i64 x ∧ wr.ownsRow w3.heap.size 3 1 v (y * W + x) ((places W (meanAt P W H r) (y * W + x)).map (Value.int .i64)) ∧ Below w3.heap.size w3 wr) (fun _ i _ => W - (intOf i).toNat)
      case atStart => exact ⟨0, Nat.zero_le _, rfl, by simpa using hown, hb⟩
      case round =>
        obtain ⟨x, hx, rfl, hownr, hbr⟩ := hrel
        clear hown hb c0 c1
        have c0 := cell_later hbr k0
        have c1 := cell_later hbr k1
        have c2 := cell_later hbr k2
        have HO := Lib.hid hownr
        have HBR := Lib.hid hbr
        clear hownr hbr
        by_cases hltx : x < W
        · obtain ⟨T, hT⟩ : ∃ T, T = y - r := ⟨_, rfl⟩
          obtain ⟨L, hL⟩ : ∃ L, L = x - r := ⟨_, rfl⟩
          obtain ⟨Bm, hBm⟩ : ∃ Bm, Bm = min (H - 1) (y + r) := ⟨_, rfl⟩
          obtain ⟨Rm, hRm⟩ : ∃ Rm, Rm = min (W - 1) (x + r) := ⟨_, rfl⟩
          have eT : max 0 ((y : Int) - (r : Int)) = (T : Int) := by omega
          have eL : max 0 ((x : Int) - (r : Int)) = (L : Int) := by omega
          have eB : min ((H : Int) - 1) ((y : Int) + (r : Int)) = (Bm : Int) := by omega
          have eR : min ((W : Int) - 1) ((x : Int) + (r : Int)) = (Rm : Int) := by omega
          have u1 : T ≤ y ∧ y ≤ Bm ∧ Bm < H := by omega
          have u2 : L ≤ x ∧ x ≤ Rm ∧ Rm < W := by omega
          have GT := Lib.hid hT
          have GL := Lib.hid hL
          have GB := Lib.hid hBm
          have GR := Lib.hid hRm
          clear hT hL hBm hRm
          obtain ⟨u1, u3, u5⟩ := u1
          obtain ⟨u2, u4, u6⟩ := u2
          go_wp2_with fail
          go_loop [11, 12, 13] (fun s m j => ∃ (k : Nat) (ss mm : Int), T ≤ k ∧ k ≤ Bm + 1 ∧ j = .int .i64 k ∧ s = .int .i64 ss ∧ m = .int .i64 mm ∧ 0 ≤ ss ∧ ss ≤ 300000000 ∧ 0 ≤ mm ∧ mm ≤ 16000000 ∧ Hid (ss = rectSum P W T L (Rm + 1 - L) (k - T) ∧ mm = (((Rm + 1 - L) * (k - T) : Nat) : Int))) (fun _ _ j => Bm + 1 - (intOf j).toNat)
          case atStart => exact ⟨T, 0, 0, Nat.le_refl _, by omega, rfl, rfl, rfl, by omega, by omega, by omega, by omega, Lib.hid ⟨by simp [rectSum], by simp⟩⟩
          case round =>
            obtain ⟨j, ss, mm, hj1, hj2, rfl, rfl, rfl, s0, s1, m0, m1, hjs⟩ := hrel
            by_cases hltj : j ≤ Bm
            · go_wp2_with fail
              go_loop [11, 12, 14] (fun s m i => ∃ (k : Nat) (sv mv : Int), L ≤ k ∧ k ≤ Rm + 1 ∧ i = .int .i64 k ∧ s = .int .i64 sv ∧ m = .int .i64 mv ∧ 0 ≤ sv ∧ sv ≤ 300000000 ∧ 0 ≤ mv ∧ mv ≤ 16000000 ∧ Hid (sv = ss + rowSum P (j * W + L) (k - L) ∧ mv = mm + ((k - L : Nat) : Int))) (fun _ _ i => Rm + 1 - (intOf i).toNat)
              case atStart => exact ⟨L, ss, mm, Nat.le_refl _, by omega, rfl, rfl, rfl, s0, s1, m0, m1, Lib.hid ⟨by simp [rowSum], by simp⟩⟩
              case round =>
                obtain ⟨i, sv, mv, hi1, hi2, rfl, rfl, rfl, v0, v1, n0, n1, his⟩ := hrel
                by_cases hlti : i ≤ Rm
                · have hfit := row_fits (show j < H by omega) (show i + 1 ≤ W by omega)
                  have hpx := cell_later HBR.out (HPW.out (j * W + i) (by omega))
                  have hpv := HP.out (j * W + i)
                  obtain ⟨p, hpe⟩ : ∃ p, p = P (j * W + i) := ⟨_, rfl⟩
                  rw [← hpe] at hpx hpv
                  have EP := Lib.hid hpe
                  clear hpe
                  have x0 : (0 : Int) ≤ (j : Int) * (W : Int) := Int.mul_nonneg (by omega) (by omega)
                  have x1 : (j : Int) * (W : Int) + (i : Int) < (W : Int) * (H : Int) := by rw [← Int.natCast_mul, ← Int.natCast_mul]; omega
                  have x2 : (j : Int) * (W : Int) + (i : Int) < ((W * H : Nat) : Int) := by rw [← Int.natCast_mul]; omega
                  clear hfit
                  go_wp2_with fail
                  have R := mm_step P W H T L Rm Bm j i ss sv mm mv p HP.out EP.out hjs his (Or.inl trivial) u5 u6 hj1 hj2 hi1 hlti hltj hN (by omega) (by omega)
                  go_round
                  case rel => exact ⟨i + 1, sv + p, mv + 1, by omega, by omega, by go_num, rfl, rfl, by omega, R.2.1, by omega, R.2.2, Lib.hid R.1⟩
                  case measure => simp [intOf]; omega
                · have R := mm_row P W H T L Rm Bm j i ss sv mm mv HP.out hjs his (Or.inl trivial) u5 u6 hj1 hj2 (show i = Rm + 1 by omega) (show L ≤ Rm by omega)
                  go_wp2_with fail
                  go_round
                  case rel => exact ⟨j + 1, sv, mv, by omega, by omega, by go_num, rfl, rfl, v0, v1, n0, n1, Lib.hid R⟩
                  case measure => simp [intOf]; omega
            · have hmm := mm_end P W H T L Rm Bm j r x y ss mm hjs (show j = Bm + 1 by omega) GT.out GL.out GB.out GR.out hltx hlt
              have hm1 : 1 ≤ mm := hmm.1
              have HV := Lib.hid hmm.2
              have hfit := row_fits hlt (show x + 1 ≤ W by omega)
              clear hmm
              go_wp2_with (first | (go_at_call 12; refine (round_any _ _ _ s0 (by omega) hm1 (by omega)).mono ?_; rintro e wq ⟨rfl, rfl⟩) | (at_builtin; refine wpList_append_own _ rfl _ _ 25 rfl w3.heap.size 3 i0 (.int .i64 0) 1 8 Try.underlying25 hi hz0 hz1 hz2 rfl (by decide) _ _ _ rfl (HO.out.alloc _) ⟨wr.heap.size, 0, none⟩ 1 1 [.int .i64 ((2 * ss + mm) / (2 * mm))] rfl rfl ?c1 ?c2 ?c3 ?c4 ?c5 ?_))
              case c1 => exact cell_one_new _ _ _
              case c2 => intro u hu; simp at hu; subst hu; rfl
              case c3 => unfold maxLen; omega
              case c4 => omega
              case c5 => have h1 := HBR.out.size; simp; omega
              · intro v' w5 hown5 hgr5 _
                have hb5 : Below w3.heap.size w3 w5 := (HBR.out.alloc HBR.out.size _).grown hgr5 (by have h1 := HBR.out.size; simp; omega) (fun k hk => (HO.out.lt k hk).1)
                have hp := Lib.hid (places_succ W (meanAt P W H r) x y hltx)
                clear hgr5
                go_wp2_with fail
                go_roundw
                case rel => exact ⟨x + 1, by omega, by go_num, by rw [← Nat.add_assoc, hp.out, List.map_append, ← HV.out]; exact hown5, hb5⟩
                case measure => simp [intOf]; omega
        · have hxe := Lib.hid (show x = W by omega)
          go_wp2_with fail
          go_roundw
          case rel => exact ⟨y + 1, by omega, by go_num, by rw [show (y + 1) * W = y * W + x by rw [hxe.out, Nat.add_mul, Nat.one_mul]]; exact HO.out, HBR.out⟩
          case measure => simp [intOf]; omega
    · have hye := Lib.hid (show y = H by omega)
      have hne : 0 < W * H := Nat.mul_pos (by omega) (by omega)
      have hown' := hown
      rw [hye.out, Nat.mul_comm H W] at hown'
      obtain ⟨g2, cap2, hv⟩ : ∃ g cap, u8 = .slice (some ⟨g, 0, none⟩) (W * H) cap := by
        rcases hown'.2 with ⟨_, h0⟩ | ⟨g, cap, cur, hv, _⟩
        · omega
        · exact ⟨g, cap, hv⟩
      rw [hv] at hown' ⊢
      have z1 : ∀ j, j < W * H → wr.cell? ⟨g1, 0 + j, none⟩ = some (.int .i64 (meanAt P W H r (j % W) (j / W))) := fun j hj => by rw [Nat.zero_add]; exact cell_later hb (HLW.out j hj)
      have z2 : ∀ j, j < W * H → wr.cell? ⟨g2, 0 + j, none⟩ = some (.int .i64 (meanAt P W H r (j % W) (j / W))) := fun j hj => by
        rw [Nat.zero_add, hown'.cellAt j (by omega)]
        simp [places, List.getElem?_range hj]
      have HEQ := Lib.hid (equalInt_true g1 0 g2 0 (W * H) cap1 cap2 (fun j => meanAt P W H r (j % W) (j / W)) wr (by omega) z1 z2)
      have HB := Lib.hid hb
      clear z1 z2 hown hown' hb hne hv
      go_wp2_with (go_at_call 13; refine HEQ.out.mono ?_; rintro e wq ⟨rfl, q, rfl⟩)
      go_ret
      exact ⟨rfl, below_drewN (below_step HB3.out HB.out) q⟩

end Go.Proofs.Ytlpdgnhlhopmjaa
namespace Go.Proofs.Ytlpdgnhlhopmjaa
open Go.ChangeShapes Go.WideShapes Go.ChangeAt Go.RowKit Go.Joins
open Go.ChangeMaps (open_string shut_string)
set_option linter.unusedVariables false

theorem own : ownKnob Try.prog.godebug = none := by kernel_rfl
theorem laidOut : laidOutB Try.prog = true := by kernel_rfl
theorem cellsGray : Try.prog.cellsOf 24 = 3 := by kernel_rfl
theorem cellsByte : Try.prog.cellsOf 5 = 1 := by kernel_rfl

/-- A slice of bytes that came in: nil; or its cells hold the numbers zs, each a byte. -/
def IsBytes (w : World) (a : Option Addr) (len cap : Nat) (zs : List Int) : Prop :=
  (a = none ∧ len = 0 ∧ cap = 0 ∧ zs = []) ∨
  ∃ x, a = some x ∧ len ≤ cap ∧ zs.length = cap ∧ (∀ i, i < zs.length → w.cell? (x.add i) = some (.int .u8 (zs.getD i 0))) ∧ ∀ n ∈ zs, (Lit.int .u8 n).wf = true

theorem isBytes_cells {w : World} {a : Option Addr} {len cap : Nat} {zs : List Int} (h : IsBytes w a len cap zs) (hl : 1 ≤ len) :
    ∃ pb po, a = some ⟨pb, po, none⟩ ∧ (∀ j, j < len → w.cell? ⟨pb, po + j, none⟩ = some (.int .u8 (zs.getD j 0))) ∧ ∀ j, 0 ≤ zs.getD j 0 ∧ zs.getD j 0 ≤ 255 := by
  rcases h with ⟨_, h0, _⟩ | ⟨⟨pb, po, spot⟩, rfl, hlc, hz, hcell, hwf⟩
  · omega
  · have hspot : spot = none := by simpa [Addr.add] using World.cell?_spot (hcell 0 (by omega))
    subst hspot
    refine ⟨pb, po, rfl, fun j hj => by have := hcell j (by omega); rwa [Addr.add_lit] at this, fun j => ?_⟩
    by_cases hj : j < zs.length
    · have hm : zs.getD j 0 ∈ zs := by rw [List.getD_eq_getElem?_getD, List.getElem?_eq_getElem hj]; exact List.getElem_mem hj
      have hmin : IntKind.u8.min = 0 := rfl
      have hmax : IntKind.u8.max = 255 := rfl
      have := hwf _ hm
      simp only [Lit.wf, Bool.and_eq_true, decide_eq_true_eq] at this
      omega
    · rw [List.getD_eq_getElem?_getD, List.getElem?_eq_none (by omega)]
      simp

set_option maxRecDepth 100000 in
/-- A page in grey by value, opened. -/
theorem open_gray {W : World} {H : Type} {enc : TypeId × Value → H} {base : Nat} {held : Bool} {r : Reach} {b0 : Nat} {v : Value} {d : DataW H} {p : List MemPlace}
    (hv : Value.okWide Try.prog W r b0 24 v) (h : DataW.Trod enc Try.prog W base (fun _ => true) held 24 v d p) :
    ∃ a b s n c zs, v = .agg #[.int .i64 a, .int .i64 b, .slice s n c] ∧ IsBytes W s n c zs := by
  obtain ⟨c0, c1, c2, y0, y1, y2, m, rfl, rfl, rfl, hy0, hy1, hy2⟩ := open_agg3 Try.underlying24 (by kernel_rfl) cellsGray hv h
  obtain ⟨a, e0, rfl, wa⟩ := DataW.trod_int Try.underlying3 hy0
  obtain ⟨b, e1, rfl, wb⟩ := DataW.trod_int Try.underlying3 hy1
  simp at e0 e1
  subst e0 e1
  rcases open_ints Try.underlying22 Try.underlying5 cellsByte hy2 with ⟨hcs, _⟩ | ⟨x, l, c, zs, hcs, _, hl, hm, hz, _, hcell, hwz⟩
  · simp at hcs
    subst hcs
    exact ⟨a, b, none, 0, 0, [], rfl, .inl ⟨rfl, rfl, rfl, rfl⟩⟩
  · simp at hcs
    subst hcs
    exact ⟨a, b, some x, l, c, zs, rfl, .inr ⟨x, rfl, hl, by simpa using hz, hcell, hwz⟩⟩

end Go.Proofs.Ytlpdgnhlhopmjaa
namespace Go.Proofs.Ytlpdgnhlhopmjaa
open Go.ChangeShapes Go.WideShapes Go.ChangeAt Go.RowKit Go.Joins
open Go.ChangeMaps (open_string shut_string)
set_option linter.unusedVariables false

theorem mm_walk (a b r : Int) (s : Option Addr) (n c : Nat) (zs : List Int) (w : World) (hs : IsBytes w s n c zs) :
    Calls Try.prog 3 #[.agg #[.int .i64 a, .int .i64 b, .slice s n c], .int .i64 r] w fun e w' => e = .returned (.bool true) ∧ Below w.heap.size w w' := by
  by_cases h : pageErr a b n = 0
  · by_cases hr : 0 ≤ r ∧ r ≤ 200
    · have he : sizeErr a b = 0 := by
        unfold pageErr at h
        by_cases h0 : sizeErr a b = 0
        · exact h0
        · rw [if_neg h0] at h; exact absurd h h0
      have hn : (n : Int) = a * b := by
        unfold pageErr at h
        rw [if_pos he] at h
        by_cases h1 : (n : Int) = a * b
        · exact h1
        · rw [if_neg h1] at h; simp at h
      obtain ⟨⟨a1, a2, a3, a4⟩, _, _⟩ := sizeErr_zero he
      obtain ⟨W, rfl⟩ := Int.eq_ofNat_of_zero_le (by omega : 0 ≤ a)
      obtain ⟨H, rfl⟩ := Int.eq_ofNat_of_zero_le (by omega : 0 ≤ b)
      obtain ⟨R, rfl⟩ := Int.eq_ofNat_of_zero_le hr.1
      obtain rfl : n = W * H := by
        have : (n : Int) = ((W * H : Nat) : Int) := by rw [hn, Int.natCast_mul]
        omega
      obtain ⟨pb, po, rfl, hc, hP⟩ := isBytes_cells hs (Nat.mul_pos (by omega) (by omega))
      exact mm_ok W H pb po c R (fun j => zs.getD j 0) w he (by omega) hP hc
    · exact mm_badRadius a b r s n c w h hr
  · exact mm_badPage a b r s n c w h

set_option maxRecDepth 100000 in
theorem means_lifted (os : Os) (started : os.Started) (H : Type) (enc : TypeId × Value → H) :
    ReturnsInHanded {} Try.checked os 3 .any (Rows.meansMatchSpec.pre6 enc Try.prog Try.f3 Rows.meansMatchRow.domain false) (Rows.meansMatchSpec.post enc Try.prog Try.f3 false true false false) := by
  refine returnsInHanded_of_change (C := Try.checked) own started (by kernel_rfl) Try.func3
    (ChangeSpec.witness6 (enc := enc) (C := Try.checked) false ⟨#[], #[.agg #[.int .i64 0, .int .i64 0, .slice none 0 0], .int .i64 0], []⟩ 8 (by kernel_rfl) (by kernel_rfl) (by kernel_rfl) (by kernel_rfl)) ?_
  intro W base args ds gs before hval0 hW hcnd _
  have hval : ∀ (j : Nat) t v, Try.f3.params[j]? = some t → args[j]? = some v → Value.okWide Try.prog W .any base t v := hval0
  have hW' := hW
  obtain ⟨p, q, hA0, hV, rfl, hfz, hnd⟩ := hW
  have hA : DataW.TrodAll enc Try.prog W 0 (fun _ => true) true Try.f3.params.toList args.toList ds p := hA0
  rw [Try.params3] at hA hval
  obtain ⟨v0, vs0, d0, ds0, p0, q0, hargs, rfl, rfl, h0, r0⟩ := trodAll_cons hA
  obtain ⟨v1, vs1, d1, ds1, p1, q1, rfl, rfl, rfl, h1, r1⟩ := trodAll_cons r0
  obtain ⟨rfl, rfl, rfl⟩ := trodAll_nil r1
  obtain rfl : args = #[v0, v1] := by cases args; simp_all
  obtain ⟨rfl, rfl⟩ := trodVars_none hV
  have k0 := h0
  have lt0 : ∀ x ∈ p0, x.block < W.heap.size := by obtain ⟨m, hm⟩ := k0; exact DataW.trod_lt m _ _ _ hm
  obtain ⟨a, b, s, n, c, zs, rfl, hs⟩ := open_gray (hval 0 24 v0 rfl rfl) h0
  obtain ⟨a1, rfl, rfl, rfl, w1⟩ := open_int Try.underlying3 (hval 1 3 v1 rfl rfl) h1
  clear hA0 hval0
  refine (mm_walk a b a1 s n c zs W hs).mono fun e W' ⟨he, bel⟩ => ?_
  subst he
  exact ⟨_, rfl, _, _, _, [], _, [], hW', trodAll_mk1 (shut_bool Try.underlying4 _), (trodAll_cons_mk (Below.trod laidOut (by kernel_rfl) (of_decide_eq_true (by kernel_rfl)) k0 bel lt0) (trodAll_cons_mk (shut_int Try.underlying3 w1) trodAll_mk0)), rfl, bel.frame _, fun h => by cases h⟩

theorem means_over : Rows.meansMatchRow.holds Try.pinned (OpenSpec.ofChange Rows.meansMatchSpec) :=
  OpenClaim.holds_of_wide 3 Try.f3 rfl rfl rfl rfl rfl rfl rfl ⟨rfl, rfl, rfl, rfl, rfl⟩ rfl rfl rfl rfl rfl (by kernel_rfl) Try.func3 (by kernel_rfl)
    (of_decide_eq_true (by kernel_rfl)) (by unfold Func.isWrapper; first | (rw [if_pos (by decide +kernel)]; kernel_rfl) | (rw [if_neg (by decide +kernel)]; exact ⟨rfl, rfl⟩))
    (fun os started H enc _ => means_lifted os started H enc)

theorem means_holds : Rows.MeansMatchSaid := means_over
end Go.Proofs.Ytlpdgnhlhopmjaa
