/-
  The contract of page.cut at byte: the part of a page in a box.
-/
import Derived.Test.YtejhmobpepllcaaFillY
import Derived.Test.YtejhmobpepllcaaCutB
namespace Go.Proofs.Ytejhmobpepllcaa
open Go.RowKit
set_option linter.unusedSimpArgs false
set_option linter.unusedVariables false

set_option maxRecDepth 100000 in
theorem cutY1_any (W H X Y bw bh x y pb xb wb g o n c : Nat) (q : Int) (w : World) (hW : W ≤ 4000) (hH : H ≤ 4000) (hX : X + bw ≤ W) (hY : Y + bh ≤ H) (hx : x < bw) (hy : y < bh) (hn : n = W * H)
    (c1 : w.cell? ⟨pb, 0, none⟩ = some (.slice (some ⟨g, o, none⟩) n c)) (c2 : w.cell? ⟨xb, 0, none⟩ = some (.int .i64 X)) (c3 : w.cell? ⟨xb, 1, none⟩ = some (.int .i64 Y)) (c4 : w.cell? ⟨wb, 0, none⟩ = some (.int .i64 W))
    (hc : w.cell? ⟨g, o + ((Y + y) * W + X + x), none⟩ = some (.int .u8 q)) :
    Calls Try.prog 162 #[.int .i64 x, .int .i64 y, .pointer (some ⟨pb, 0, none⟩), .pointer (some ⟨xb, 0, none⟩), .pointer (some ⟨wb, 0, none⟩)] w fun e w' => e = .returned (.int .u8 q) ∧ w = w' := by
  have hlt := in_page_lt hX hY hx hy
  rw [← hn] at hlt
  have m0 : (0 : Int) ≤ ((Y : Int) + (y : Int)) * (W : Int) := Int.mul_nonneg (by omega) (by omega)
  have m1 : ((Y : Int) + (y : Int)) * (W : Int) + (X : Int) + (x : Int) < (n : Int) := by
    have : (((Y + y) * W + X + x : Nat) : Int) < (n : Int) := by omega
    simpa [Int.natCast_mul] using this
  have m2 : n ≤ 16000000 := by rw [hn]; exact Nat.mul_le_mul hW hH
  clear hlt hn
  go_enter Try.func162, Try.ntmps162
  go_wp2
  go_ret
  exact ⟨rfl, rfl⟩

set_option maxRecDepth 100000 in
theorem cutY_any (W H X Y bw bh g o n c : Nat) (z : Nat → Int) (w : World) (hW : W ≤ 4000) (hH : H ≤ 4000) (hX : X + bw ≤ W) (hY : Y + bh ≤ H) (hb1 : 1 ≤ bw) (hb2 : 1 ≤ bh) (hn : n = W * H) (hN : n ≤ 1048576)
    (hc : ∀ j, j < n → w.cell? ⟨g, o + j, none⟩ = some (.int .u8 (z j))) :
    Calls Try.prog 108 #[.slice (some ⟨g, o, none⟩) n c, .int .i64 W, .agg #[.int .i64 X, .int .i64 Y, .int .i64 bw, .int .i64 bh]] w fun e w' =>
      ∃ v, e = .returned v ∧ w'.ownsRow w.heap.size 5 1 v (bw * bh) ((places bw (fun x y => z ((Y + y) * W + X + x)) (bw * bh)).map (Value.int .u8)) ∧ Below w.heap.size w w' := by
  have hmf : ∀ (fn : Fn) (first cap : Array Value) (w : World), (Instr.makeFunc fn first cap).run Try.prog w = .ok (.func fn first cap) w := fun _ _ _ _ => rfl
  have HC := Lib.hid hc
  have HN := Lib.hid hn
  clear hc hn
  go_enter Try.func108, Try.ntmps108
  go_wp2_with fail
  obtain ⟨w1, hw1⟩ : ∃ w1, w1 = ((w.alloc (.cells #[.slice (some ⟨g, o, none⟩) n c] 25)).alloc (.cells #[.int .i64 W] 3)).alloc (.cells #[.int .i64 X, .int .i64 Y, .int .i64 bw, .int .i64 bh] 29) := ⟨_, rfl⟩
  have B1 : Below w.heap.size w w1 := by rw [hw1]; exact below_alloc (below_alloc (new_below _ _) _) _
  have k1 : w1.cell? ⟨w.heap.size, 0, none⟩ = some (.slice (some ⟨g, o, none⟩) n c) := by rw [hw1]; go_simp
  have k2 : w1.cell? ⟨w.heap.size + 2, 0, none⟩ = some (.int .i64 X) := by rw [hw1]; go_simp
  have k3 : w1.cell? ⟨w.heap.size + 2, 1, none⟩ = some (.int .i64 Y) := by rw [hw1]; go_simp
  have k4 : w1.cell? ⟨w.heap.size + 1, 0, none⟩ = some (.int .i64 W) := by rw [hw1]; go_simp
  rw [← hw1]
  clear hw1
  have hbb := Nat.mul_le_mul (show bw ≤ W by omega) (show bh ≤ H by omega)
  rw [← HN.out] at hbb
  refine (fillByte_any bw bh 162 _ (fun x y => z ((Y + y) * W + X + x)) w1 hb1 (by omega) (by omega) (by omega) (Go.Proofs.enters_of Try.func162 (by kernel_rfl) rfl) ?_).mono ?_
  · intro x y wx hx hy hbx
    have hlt := in_page_lt hX hY hx hy
    rw [← HN.out] at hlt
    refine (cutY1_any W H X Y bw bh x y w.heap.size (w.heap.size + 2) (w.heap.size + 1) g o n c _ wx hW hH hX hY hx hy HN.out (cell_later hbx k1) (cell_later hbx k2) (cell_later hbx k3) (cell_later hbx k4) (cell_later hbx (cell_later B1 (HC.out _ hlt)))).mono ?_
    rintro e wy ⟨rfl, rfl⟩
    exact ⟨rfl, Below.refl _ _⟩
  · rintro e w5 ⟨v, rfl, hown, hb5⟩
    have F := Lib.hid hown
    have G := Lib.hid hb5
    clear hown hb5 hbb
    go_wp2_with fail
    go_ret
    exact ⟨v, rfl, owns_base F.out B1.size, below_step B1 G.out⟩

end Go.Proofs.Ytejhmobpepllcaa
