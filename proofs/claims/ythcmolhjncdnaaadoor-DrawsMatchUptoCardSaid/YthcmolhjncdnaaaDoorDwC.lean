/-
  bar.Draw: its closure.
-/
import Derived.Test.YthcmolhjncdnaaaDoorFillB
import Derived.Test.YthcmolhjncdnaaaDoorMade
import Derived.Test.YthcmolhjncdnaaaDoorBaA
import Derived.Deep.RegionHeld3
import Derived.Deep.QuietTactic
import Derived.BigQuiet
namespace Go.Proofs.YthcmolhjncdnaaaDoor
open Go.RowKit
set_option linter.unusedSimpArgs false
set_option linter.unusedVariables false

/-- A pixel of drawn modules: with U pixels to a module, and Q ahead of them. -/
def drawZ (m : ByteArray) (Q U x : Nat) : Bool := decide (Q ≤ x) && (decide (x < Q + U * m.size) && decide (byteAt m ((x - Q) / U) = 49))

set_option maxHeartbeats 2000000 in
set_option maxRecDepth 100000 in
theorem draw1_any (m : ByteArray) (Q U W x y qb wb mb ub : Nat) (w : World) (hU : 1 ≤ U ∧ U ≤ 8) (hQ : Q ≤ 200) (hW : W = m.size * U + 2 * Q) (hW2 : W ≤ 4000) (hx : x < W)
    (h1 : w.cell? ⟨qb, 0, none⟩ = some (.int .i64 Q)) (h2 : w.cell? ⟨wb, 0, none⟩ = some (.int .i64 W)) (h3 : w.cell? ⟨mb, 0, none⟩ = some (.string m)) (h4 : w.cell? ⟨ub, 0, none⟩ = some (.int .i64 U)) :
    Calls Tryd.prog 23 #[.int .i64 x, .int .i64 y, .pointer (some ⟨qb, 0, none⟩), .pointer (some ⟨wb, 0, none⟩), .pointer (some ⟨mb, 0, none⟩), .pointer (some ⟨ub, 0, none⟩)] w fun e w' => e = .returned (.bool (drawZ m Q U x)) ∧ Below w.heap.size w w' := by
  by_cases c1 : Q ≤ x
  · by_cases c2 : x < W - Q
    · have hlt : (x - Q) / U < m.size := by
        rw [Nat.div_lt_iff_lt_mul (by omega)]
        omega
      have i1 : (Q : Int) ≤ (x : Int) := by omega
      have i2 : (x : Int) < (W : Int) - (Q : Int) := by omega
      have hq : ((x : Int) - (Q : Int)).tdiv (U : Int) = (((x - Q) / U : Nat) : Int) := by
        rw [Int.tdiv_eq_ediv_of_nonneg (by omega), show (x : Int) - (Q : Int) = ((x - Q : Nat) : Int) by omega]
        rfl
      obtain ⟨k, hk⟩ : ∃ k, k = (x - Q) / U := ⟨_, rfl⟩
      have hb := byteAt_get m ((x - Q) / U) hlt
      have hz : drawZ m Q U x = decide (byteAt m ((x - Q) / U) = 49) := by
        unfold drawZ
        rw [decide_eq_true c1, decide_eq_true (by rw [Nat.mul_comm] at hW; omega)]; rfl
      rw [← hk] at hq hlt hz
      have hb2 : ((m[k]'hlt).toNat : Int) = byteAt m k := byteAt_get m k hlt
      have HZ := Lib.hid (show drawZ m Q U x = decide (((m[k]'hlt).toNat : Int) = 49) by rw [hz, hb2])
      have hU0 : (U : Int) ≠ 0 := by omega
      have hkm : k ≤ m.size * U := Nat.le_trans (Nat.le_of_lt hlt) (Nat.le_mul_of_pos_right _ (by omega))
      have v1 : IntKind.i64.wrap ((W : Int) - (Q : Int)) = (W : Int) - (Q : Int) := IntWalk.i64_in _ (by omega)
      have v2 : IntKind.i64.wrap (k : Int) = (k : Int) := IntWalk.i64_in _ (by omega)
      have v3 : IntKind.i64.wrap ((x : Int) - (Q : Int)) = (x : Int) - (Q : Int) := IntWalk.i64_in _ (by omega)
      have i3 : (k : Int) < (m.size : Int) := by omega
      clear hkm
      clear hk hb hz hW hb2
      go_enter Tryd.func23, Tryd.ntmps23
      go_wp2_with fail
      go_region
      go_wp2_with fail
      go_ret
      exact ⟨by rw [HZ.out]; rfl, (Below.refl _ _).drew⟩
    · have i1 : (Q : Int) ≤ (x : Int) := by omega
      have i2 : ¬ (x : Int) < (W : Int) - (Q : Int) := by omega
      have i4 : decide ((x : Int) < (W : Int) - (Q : Int)) = false := decide_eq_false i2
      have HZ := Lib.hid (show drawZ m Q U x = false by
        unfold drawZ
        rw [decide_eq_true c1, decide_eq_false (p := x < Q + U * m.size) (by rw [Nat.mul_comm] at hW; omega)]; rfl)
      have v1 : IntKind.i64.wrap ((W : Int) - (Q : Int)) = (W : Int) - (Q : Int) := IntWalk.i64_in _ (by omega)
      clear hW
      go_enter Tryd.func23, Tryd.ntmps23
      go_wp2_with fail
      go_region
      go_wp2_with fail
      go_ret
      exact ⟨ret_bool HZ.out.symm, (Below.refl _ _).drew⟩
  · have i1 : ¬ (Q : Int) ≤ (x : Int) := by omega
    have HZ := Lib.hid (show drawZ m Q U x = false by unfold drawZ; rw [decide_eq_false c1]; rfl)
    clear hW
    go_enter Tryd.func23, Tryd.ntmps23
    go_wp2_with fail
    go_region
    go_wp2_with fail
    go_ret
    exact ⟨ret_bool HZ.out.symm, (Below.refl _ _).drew⟩

set_option maxHeartbeats 2000000 in
set_option maxRecDepth 100000 in
theorem drawR1_any (m : ByteArray) (Q U x y qb mb ub : Nat) (w : World) (hU : 1 ≤ U ∧ U ≤ 8) (hQ : Q ≤ 200) (hW2 : Q + U * m.size ≤ 4000) (hx : x ≤ 4000)
    (h1 : w.cell? ⟨qb, 0, none⟩ = some (.int .i64 Q)) (h3 : w.cell? ⟨mb, 0, none⟩ = some (.string m)) (h4 : w.cell? ⟨ub, 0, none⟩ = some (.int .i64 U)) :
    Calls Tryd.prog 28 #[.int .i64 x, .int .i64 y, .pointer (some ⟨qb, 0, none⟩), .pointer (some ⟨ub, 0, none⟩), .pointer (some ⟨mb, 0, none⟩)] w fun e w' => e = .returned (.bool (drawZ m Q U x)) ∧ Below w.heap.size w w' := by
  have v1 : IntKind.i64.wrap ((x : Int) - (Q : Int)) = (x : Int) - (Q : Int) := IntWalk.i64_in _ (by omega)
  have m0 : (U : Int) * (m.size : Int) = ((U * m.size : Nat) : Int) := by simp
  have v2 : IntKind.i64.wrap ((U : Int) * (m.size : Int)) = (U : Int) * (m.size : Int) := IntWalk.i64_in _ (by rw [m0]; omega)
  have v3 : IntKind.i64.wrap ((U : Int) * (m.size : Int) - 1) = (U : Int) * (m.size : Int) - 1 := IntWalk.i64_in _ (by rw [m0]; omega)
  by_cases c1 : Q ≤ x ∧ x < Q + U * m.size
  · have hlt : (x - Q) / U < m.size := by
      rw [Nat.div_lt_iff_lt_mul (by omega), Nat.mul_comm]
      omega
    have hq : ((x : Int) - (Q : Int)).tdiv (U : Int) = (((x - Q) / U : Nat) : Int) := by
      rw [Int.tdiv_eq_ediv_of_nonneg (by omega), show (x : Int) - (Q : Int) = ((x - Q : Nat) : Int) by omega]
      rfl
    obtain ⟨k, hk⟩ : ∃ k, k = (x - Q) / U := ⟨_, rfl⟩
    have hz : drawZ m Q U x = decide (byteAt m ((x - Q) / U) = 49) := by
      unfold drawZ
      rw [decide_eq_true c1.1, decide_eq_true c1.2]; rfl
    rw [← hk] at hq hlt hz
    have hb2 : ((m[k]'hlt).toNat : Int) = byteAt m k := byteAt_get m k hlt
    have HZ := Lib.hid (show drawZ m Q U x = decide (((m[k]'hlt).toNat : Int) = 49) by rw [hz, hb2])
    have hU0 : (U : Int) ≠ 0 := by omega
    have hkm : k ≤ U * m.size := Nat.le_trans (Nat.le_of_lt hlt) (Nat.le_mul_of_pos_left _ (by omega))
    have v4 : IntKind.i64.wrap (k : Int) = (k : Int) := IntWalk.i64_in _ (by omega)
    have i3 : (k : Int) < (m.size : Int) := by omega
    have IN := Lib.hid (fun wx => in_yes ((x : Int) - (Q : Int)) 0 ((U : Int) * (m.size : Int) - 1) wx (by rw [m0]; omega))
    clear hk hz hb2 hkm m0
    go_enter Tryd.func28, Tryd.ntmps28
    go_wp2_with fail
    go_quiet ((go_at_call 7; (with_reducible refine (IN.out _).mono ?_); rintro e wa ⟨rfl, rfl⟩; exact ⟨rfl, _, rfl⟩))
    go_wp2_with fail
    go_ret
    exact ⟨by rw [HZ.out]; rfl, below_drewN (Below.refl _ _) _⟩
  · have HZ := Lib.hid (show drawZ m Q U x = false by
      unfold drawZ
      by_cases a : Q ≤ x
      · rw [decide_eq_true a, decide_eq_false (p := x < Q + U * m.size) (by omega)]; rfl
      · rw [decide_eq_false a]; rfl)
    have IN := Lib.hid (fun wx => in_no ((x : Int) - (Q : Int)) 0 ((U : Int) * (m.size : Int) - 1) wx (by rw [m0]; omega))
    clear m0
    go_enter Tryd.func28, Tryd.ntmps28
    go_wp2_with fail
    go_quiet ((go_at_call 7; (with_reducible refine (IN.out _).mono ?_); rintro e wa ⟨rfl, rfl⟩; exact ⟨rfl, _, rfl⟩))
    go_wp2_with fail
    go_ret
    exact ⟨by rw [HZ.out]; rfl, below_drewN (Below.refl _ _) _⟩

end Go.Proofs.YthcmolhjncdnaaaDoor
