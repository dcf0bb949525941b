/-
  The contract of page.Halve, and of what MixesMatch compares it with.
-/
import Derived.Test.YtejhmobpepllcaaMixC
import Derived.Test.YtejhmobpepllcaaCutsA
import Derived.Test.YtejhmobpepllcaaMadeY
import Derived.Test.YtejhmobpepllcaaSameY
namespace Go.Proofs.Ytejhmobpepllcaa
open Go.RowKit
set_option linter.unusedSimpArgs false
set_option linter.unusedVariables false

theorem halve_badPage (a b : Int) (p : Option Addr) (n c : Nat) (w : World) (h : pageErr a b n ≠ 0) :
    Calls Try.prog 53 #[.agg #[.int .i64 a, .int .i64 b, .slice p n c]] w fun e w' => e = .returned (.tuple #[.agg #[.int .i64 0, .int .i64 0, .slice none 0 0], .int .i64 (pageErr a b n)]) ∧ Below w.heap.size w w' := by
  have h' : (pageErr a b n != 0) = true := by simpa using h
  clear h
  go_enter Try.func53, Try.ntmps53
  go_wp2_with ((go_at_call 17; refine (checkGray_any _ _ _ _ _ _).mono ?_; rintro e w' ⟨rfl, rfl⟩))
  refine bodyPost_ret (v := .tuple #[.agg #[.int .i64 0, .int .i64 0, .slice none 0 0], .int .i64 (pageErr a b n)]) (by simp [results, Try.results53, go_sem]) rfl ⟨rfl, below_alloc (below_alloc (new_below _ _) _) _⟩

theorem halve1_any (W H x y gb pb po c : Nat) (P : Nat → Int) (w : World) (hW : W ≤ 4000) (hH : H ≤ 4000) (hN : W * H ≤ 1048576) (hx : 2 * x < W) (hy : 2 * y < H) (hP : ∀ j, 0 ≤ P j ∧ P j ≤ 255)
    (q0 : w.cell? ⟨gb, 0, none⟩ = some (.int .i64 W)) (q1 : w.cell? ⟨gb, 1, none⟩ = some (.int .i64 H)) (q2 : w.cell? ⟨gb, 2, none⟩ = some (.slice (some ⟨pb, po, none⟩) (W * H) c))
    (hp : ∀ j, j < W * H → w.cell? ⟨pb, po + j, none⟩ = some (.int .u8 (P j))) :
    Calls Try.prog 118 #[.int .i64 x, .int .i64 y, .pointer (some ⟨gb, 0, none⟩)] w fun e w' => e = .returned (.int .u8 (mean4 P W H x y)) ∧ Below w.heap.size w w' := by
  have HM := Lib.hid (meanOfFour_any W H x y pb po c P w hW hH hN hx hy hP hp)
  clear hp hP
  go_enter Try.func118, Try.ntmps118
  go_wp2_with (go_at_call 119; refine HM.out.mono ?_; rintro e w1 ⟨rfl, hb1⟩)
  go_ret
  exact ⟨rfl, hb1⟩

set_option maxHeartbeats 400000 in
set_option maxRecDepth 100000 in
theorem halve_ok (W H w2 h2 pb po c : Nat) (P : Nat → Int) (w : World) (he : sizeErr W H = 0) (hw2 : w2 = (W + 1) / 2) (hh2 : h2 = (H + 1) / 2) (hP : ∀ j, 0 ≤ P j ∧ P j ≤ 255)
    (hp : ∀ j, j < W * H → w.cell? ⟨pb, po + j, none⟩ = some (.int .u8 (P j))) :
    Calls Try.prog 53 #[.agg #[.int .i64 W, .int .i64 H, .slice (some ⟨pb, po, none⟩) (W * H) c]] w fun e w' =>
      ∃ v, e = .returned (.tuple #[.agg #[.int .i64 w2, .int .i64 h2, v], .int .i64 0]) ∧ w'.ownsRow w.heap.size 5 1 v (w2 * h2) ((places w2 (mean4 P W H) (w2 * h2)).map (Value.int .u8)) ∧ Below w.heap.size w w' := by
  have hmf : ∀ (fn : Fn) (first cap : Array Value) (w : World), (Instr.makeFunc fn first cap).run Try.prog w = .ok (.func fn first cap) w := fun _ _ _ _ => rfl
  obtain ⟨⟨a1, a2, a3, a4⟩, z0, z1⟩ := sizeErr_zero he
  have hN : W * H ≤ 1048576 := by rw [← Int.natCast_mul] at z1; omega
  have hpe : pageErr W H (W * H) = 0 := by unfold pageErr; rw [if_pos he, if_pos (by simp [Int.natCast_mul])]
  have d1 : ((W : Int) + 1) / 2 = (w2 : Int) := by omega
  have d2 : ((H : Int) + 1) / 2 = (h2 : Int) := by omega
  have b1 : 1 ≤ w2 ∧ w2 ≤ W ∧ 2 * w2 ≤ W + 1 := by omega
  have b2 : 1 ≤ h2 ∧ h2 ≤ H ∧ 2 * h2 ≤ H + 1 := by omega
  have HP := Lib.hid hP
  have HC := Lib.hid hp
  clear hP hp he z0 z1 hw2 hh2
  go_enter Try.func53, Try.ntmps53
  go_wp2_with ((go_at_call 17; refine (checkGray_any _ _ _ _ _ _).mono ?_; rintro e w' ⟨rfl, rfl⟩))
  go_quiet (fail)
  go_wp2_with fail
  obtain ⟨w1, hw1⟩ : ∃ w1, w1 = ((((w.alloc (.cells #[.int .i64 W, .int .i64 H, .slice (some ⟨pb, po, none⟩) (W * H) c] 27)).alloc (.cells #[.int .i64 0, .int .i64 0, .slice none 0 0] 27)).alloc (.cells #[.int .i64 W, .int .i64 H, .slice (some ⟨pb, po, none⟩) (W * H) c] 27)).drewN nq) := ⟨_, rfl⟩
  have B1 : Below w.heap.size w w1 := by rw [hw1]; exact below_drewN (below_alloc (below_alloc (new_below _ _) _) _) _
  have q0 : w1.cell? ⟨w.heap.size, 0, none⟩ = some (.int .i64 W) := by rw [hw1]; go_simp
  have q1 : w1.cell? ⟨w.heap.size, 1, none⟩ = some (.int .i64 H) := by rw [hw1]; go_simp
  have q2 : w1.cell? ⟨w.heap.size, 2, none⟩ = some (.slice (some ⟨pb, po, none⟩) (W * H) c) := by rw [hw1]; go_simp
  have qb : w1.heap[w.heap.size + 1]? = some (.cells #[.int .i64 0, .int .i64 0, .slice none 0 0] 27 (0, 0)) := by
    rw [hw1]
    show (((w.alloc _).alloc _).alloc _).heap[w.heap.size + 1]? = _
    rw [Below.heap_alloc _ _ _ (by simp)]
    simpa using heap_alloc_new (w.alloc (.cells #[.int .i64 W, .int .i64 H, .slice (some ⟨pb, po, none⟩) (W * H) c] 27)) (.cells #[.int .i64 0, .int .i64 0, .slice none 0 0] 27)
  rw [← hw1]
  clear hw1
  have lt1 := (Array.getElem?_eq_some_iff.1 qb).1
  have hbb := Nat.mul_le_mul b1.2.1 b2.2.1
  refine (fillByte_any w2 h2 118 _ (mean4 P W H) w1 b1.1 (by omega) (by omega) (by omega) (Go.Proofs.enters_of Try.func118 (by kernel_rfl) rfl) ?_).mono ?_
  · intro x y wx hx hy hbx
    exact halve1_any W H x y w.heap.size pb po c P wx (by omega) (by omega) hN (by omega) (by omega) HP.out (cell_later hbx q0) (cell_later hbx q1) (cell_later hbx q2) (fun j hj => cell_later hbx (cell_later B1 (HC.out j hj)))
  · rintro e w5 ⟨v, rfl, hown, hb5⟩
    obtain ⟨j0, j1, j2, r0, r1, r2⟩ := block3 (below_block hb5 qb)
    obtain ⟨va, vn, vc, rfl⟩ := owns_shape hown
    have F := Lib.hid hown
    have G := Lib.hid hb5
    have L := Lib.hid lt1
    clear hown hb5 hbb lt1 q0 q1 q2
    go_wp2_with fail
    refine bodyPost_ret (v := .tuple #[.agg #[.int .i64 w2, .int .i64 h2, .slice va vn vc], .int .i64 0]) (by simp [results, Try.results53, go_sem, j0, j1, j2]) rfl ⟨_, rfl, owns_far3 F.out L.out B1.size, below_far3 (below_step B1 G.out) (by omega)⟩

end Go.Proofs.Ytejhmobpepllcaa
