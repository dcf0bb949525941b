/-
  The two closures of page.Around: the sum of a corner, and the sum and the number of the values around a pixel.
-/
import Derived.Test.YtejhmobpepllcaaSums
import Derived.Lib.MinMax
import Derived.Deep.QuietTactic
import Derived.BigQuiet
namespace Go.Proofs.Ytejhmobpepllcaa
open Go.RowKit
set_option linter.unusedSimpArgs false
set_option linter.unusedVariables false

set_option maxRecDepth 100000 in
theorem around1_any (x y W M sb gb g : Nat) (s : Int) (w : World) (hx : x ≤ 4000) (hy : y ≤ 4000) (hW : W ≤ 4000) (hM : y * (W + 1) + x < M) (hM' : M ≤ 20000000)
    (h1 : w.cell? ⟨sb, 0, none⟩ = some (.slice (some ⟨g, 0, none⟩) M M)) (h2 : w.cell? ⟨gb, 0, none⟩ = some (.int .i64 W)) (h3 : w.cell? ⟨g, y * (W + 1) + x, none⟩ = some (.int .i64 s)) :
    Calls Try.prog 173 #[.int .i64 x, .int .i64 y, .pointer (some ⟨sb, 0, none⟩), .pointer (some ⟨gb, 0, none⟩)] w fun e w' => e = .returned (.int .i64 s) ∧ w = w' := by
  have x2 : (0 : Int) ≤ (y : Int) * ((W : Int) + 1) := Int.mul_nonneg (by omega) (by omega)
  have x5 : (y : Int) * ((W : Int) + 1) + (x : Int) < (M : Int) := by
    have : ((y * (W + 1) + x : Nat) : Int) < (M : Int) := by omega
    simpa [Int.natCast_mul] using this
  clear hM
  go_enter Try.func173, Try.ntmps173
  go_wp2
  go_ret
  exact ⟨rfl, rfl⟩

set_option maxHeartbeats 800000 in
set_option maxRecDepth 100000 in
theorem around2_any (x y W H r M L R T B rb wb hb bb sb g : Nat) (s00 s01 s10 s11 : Int) (w : World) (hx : x < W) (hy : y < H) (hW : W ≤ 4000) (hH : H ≤ 4000) (hr : r ≤ 200)
    (hL : max ((x : Int) - (r : Int)) 0 = (L : Int)) (hR : min ((x : Int) + (r : Int) + 1) (W : Int) = (R : Int)) (hT : max ((y : Int) - (r : Int)) 0 = (T : Int)) (hB : min ((y : Int) + (r : Int) + 1) (H : Int) = (B : Int))
    (hM : M = (W + 1) * (H + 1)) (hM' : M ≤ 20000000)
    (c1 : w.cell? ⟨rb, 0, none⟩ = some (.int .i64 r)) (c2 : w.cell? ⟨wb, 0, none⟩ = some (.int .i64 W)) (c3 : w.cell? ⟨hb, 0, none⟩ = some (.int .i64 H))
    (c4 : w.cell? ⟨bb, 0, none⟩ = some (.func (.func 173) #[] #[.pointer (some ⟨sb, 0, none⟩), .pointer (some ⟨wb, 0, none⟩)])) (c5 : w.cell? ⟨sb, 0, none⟩ = some (.slice (some ⟨g, 0, none⟩) M M))
    (e11 : w.cell? ⟨g, B * (W + 1) + R, none⟩ = some (.int .i64 s11)) (e01 : w.cell? ⟨g, B * (W + 1) + L, none⟩ = some (.int .i64 s01)) (e10 : w.cell? ⟨g, T * (W + 1) + R, none⟩ = some (.int .i64 s10)) (e00 : w.cell? ⟨g, T * (W + 1) + L, none⟩ = some (.int .i64 s00))
    (b11 : 0 ≤ s11 ∧ s11 ≤ 300000000) (b01 : 0 ≤ s01 ∧ s01 ≤ 300000000) (b10 : 0 ≤ s10 ∧ s10 ≤ 300000000) (b00 : 0 ≤ s00 ∧ s00 ≤ 300000000) (hs : 0 ≤ s11 - s01 - s10 + s00) (hs' : s11 - s01 - s10 + s00 ≤ 300000000) :
    Calls Try.prog 174 #[.int .i64 x, .int .i64 y, .pointer (some ⟨rb, 0, none⟩), .pointer (some ⟨wb, 0, none⟩), .pointer (some ⟨hb, 0, none⟩), .pointer (some ⟨bb, 0, none⟩)] w fun e w' => 
      e = .returned (.tuple #[.int .i64 (s11 - s01 - s10 + s00), .int .i64 (((R : Int) - L) * ((B : Int) - T))]) ∧ ∃ q, w' = w.drewN q := by
  have hin : ∀ Y X, Y ≤ H → X ≤ W → Y * (W + 1) + X < M := fun Y X hY hX => by
    have := Nat.mul_le_mul_right (W + 1) (show Y + 1 ≤ H + 1 by omega)
    rw [Nat.add_mul Y 1] at this
    rw [hM, Nat.mul_comm (W + 1) (H + 1)]
    omega
  have bL : L ≤ x := by omega
  have bR : x < R ∧ R ≤ W := by omega
  have bT : T ≤ y := by omega
  have bB : y < B ∧ B ≤ H := by omega
  have d11 := fun n => around1_any R B W M sb wb g s11 (w.drewN n) (by omega) (by omega) hW (hin _ _ (by omega) (by omega)) hM' (by simp [c5]) (by simp [c2]) (by simp [e11])
  have d01 := fun n => around1_any L B W M sb wb g s01 (w.drewN n) (by omega) (by omega) hW (hin _ _ (by omega) (by omega)) hM' (by simp [c5]) (by simp [c2]) (by simp [e01])
  have d10 := fun n => around1_any R T W M sb wb g s10 (w.drewN n) (by omega) (by omega) hW (hin _ _ (by omega) (by omega)) hM' (by simp [c5]) (by simp [c2]) (by simp [e10])
  have d00 := fun n => around1_any L T W M sb wb g s00 (w.drewN n) (by omega) (by omega) hW (hin _ _ (by omega) (by omega)) hM' (by simp [c5]) (by simp [c2]) (by simp [e00])
  have D11 := Lib.hid d11
  have D01 := Lib.hid d01
  have D10 := Lib.hid d10
  have D00 := Lib.hid d00
  clear d11 d01 d10 d00 hin e11 e01 e10 e00 hM
  have p1 : 1 ≤ (R : Int) - L := by omega
  have p2 : 1 ≤ (B : Int) - T := by omega
  have p3 : 1 ≤ ((R : Int) - L) * ((B : Int) - T) := Int.le_trans (by decide : (1:Int) ≤ 1 * 1) (Int.mul_le_mul p1 p2 (by decide) (by omega))
  have p4 : ((R : Int) - L) * ((B : Int) - T) ≤ 16000000 := Int.le_trans (Int.mul_le_mul (by omega : (R : Int) - L ≤ 4000) (by omega : (B : Int) - T ≤ 4000) (by omega) (by decide)) (by decide)
  go_enter Try.func174, Try.ntmps174
  go_wp2
  go_quiet (fail)
  go_wp2
  go_quiet (fail)
  go_wp2
  go_quiet ((first | (go_at_call 173; (with_reducible refine (D11.out _).mono ?_); rintro e w1 ⟨rfl, rfl⟩; exact ⟨rfl, _, rfl⟩) | (go_at_call 173; (with_reducible refine (D01.out _).mono ?_); rintro e w1 ⟨rfl, rfl⟩; exact ⟨rfl, _, rfl⟩) | (go_at_call 173; (with_reducible refine (D10.out _).mono ?_); rintro e w1 ⟨rfl, rfl⟩; exact ⟨rfl, _, rfl⟩) | (go_at_call 173; (with_reducible refine (D00.out _).mono ?_); rintro e w1 ⟨rfl, rfl⟩; exact ⟨rfl, _, rfl⟩)))
  go_wp2
  go_ret2
  exact ⟨rfl, _, rfl⟩

end Go.Proofs.Ytejhmobpepllcaa
