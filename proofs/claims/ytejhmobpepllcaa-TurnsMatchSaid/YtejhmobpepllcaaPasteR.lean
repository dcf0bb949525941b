/-
  The contract of the reference's PasteOf.
-/
import Derived.Test.YtejhmobpepllcaaPasteM
import Derived.Test.YtejhmobpepllcaaMade
namespace Go.Proofs.Ytejhmobpepllcaa
open Go.RowKit
set_option linter.unusedSimpArgs false
set_option linter.unusedVariables false

set_option maxHeartbeats 800000 in
set_option maxRecDepth 100000 in
theorem pasteOf1_any (W H Wc Hc g1 o1 c1 g2 o2 c2 i j xb cb bb yb : Nat) (x y : Int) (z1 z2 : Nat → Bool) (w : World) (hW : 1 ≤ W ∧ W ≤ 4000) (hH : 1 ≤ H ∧ H ≤ 4000) (hWc : 1 ≤ Wc ∧ Wc ≤ 4000) (hHc : 1 ≤ Hc ∧ Hc ≤ 4000) (hi : i < W) (hj : j < H)
    (kx : w.cell? ⟨xb, 0, none⟩ = some (.int .i64 x)) (ky : w.cell? ⟨yb, 0, none⟩ = some (.int .i64 y))
    (kb0 : w.cell? ⟨bb, 0, none⟩ = some (.int .i64 W)) (kb1 : w.cell? ⟨bb, 1, none⟩ = some (.int .i64 H)) (kb2 : w.cell? ⟨bb, 2, none⟩ = some (.slice (some ⟨g1, o1, none⟩) (W * H) c1))
    (kc0 : w.cell? ⟨cb, 0, none⟩ = some (.int .i64 Wc)) (kc1 : w.cell? ⟨cb, 1, none⟩ = some (.int .i64 Hc)) (kc2 : w.cell? ⟨cb, 2, none⟩ = some (.slice (some ⟨g2, o2, none⟩) (Wc * Hc) c2))
    (hz1 : ∀ k, k < W * H → w.cell? ⟨g1, o1 + k, none⟩ = some (.bool (z1 k))) (hz2 : ∀ k, k < Wc * Hc → w.cell? ⟨g2, o2 + k, none⟩ = some (.bool (z2 k))) :
    Calls Try.prog 123 #[.int .i64 i, .int .i64 j, .pointer (some ⟨xb, 0, none⟩), .pointer (some ⟨cb, 0, none⟩), .pointer (some ⟨bb, 0, none⟩), .pointer (some ⟨yb, 0, none⟩)] w fun e w' => e = .returned (.bool (pasteAt W Wc Hc x y z1 z2 i j)) ∧ Below w.heap.size w w' := by
  have hfit := row_fits hj (show i + 1 ≤ W by omega)
  have HA := Lib.hid (at_in W H g1 o1 c1 i j (z1 (j * W + i)) w (by omega) (by omega) hi hj (hz1 _ (by omega)))
  obtain ⟨q1, hq1⟩ : ∃ q, q = z1 (j * W + i) := ⟨_, rfl⟩
  rw [← hq1] at HA
  have hp : pasteAt W Wc Hc x y z1 z2 i j = (q1 || (decide (InC Wc Hc x y i j) && z2 (((j : Int) - y).toNat * Wc + ((i : Int) - x).toNat))) := by rw [hq1]; rfl
  have HP := Lib.hid hp
  have lx := World.block_lt_of_cell? _ _ kx
  have ly := World.block_lt_of_cell? _ _ ky
  have lc := World.block_lt_of_cell? _ _ kc0
  simp only at lx ly lc
  clear hq1 hp hfit
  by_cases n1 : -(Wc : Int) ≤ x ∧ x ≤ (W : Int)
  · by_cases n2 : -(Hc : Int) ≤ y ∧ y ≤ (H : Int)
    · by_cases hq : q1 = true
      · subst hq
        have HZ2 := Lib.hid hz2
        clear hz1 hz2
        go_enter Try.func123, Try.ntmps123
        go_wp2_with (first | (go_at_call 50; refine (in_yes _ _ _ _ (by omega)).mono ?_; rintro e w' ⟨rfl, rfl⟩) | (go_at_call 44; refine HA.out.mono ?_; rintro e wa ⟨rfl, hba⟩))
        go_ret
        exact ⟨ret_bool (by rw [HP.out]; rfl), hba⟩
      · obtain rfl : q1 = false := by simpa using hq
        by_cases hin : InC Wc Hc x y i j
        · obtain ⟨a, ha⟩ := Int.eq_ofNat_of_zero_le hin.1.1
          obtain ⟨b, hb⟩ := Int.eq_ofNat_of_zero_le hin.2.1
          have haw : a < Wc := by have := hin.1.2; omega
          have hbw : b < Hc := by have := hin.2.2; omega
          have hfit2 := row_fits hbw (show a + 1 ≤ Wc by omega)
          have HR := Lib.hid (show pasteAt W Wc Hc x y z1 z2 i j = z2 (b * Wc + a) by rw [HP.out, ha, hb, decide_eq_true hin]; simp)
          have HC := Lib.hid (fun (wa : World) (hba : Below w.heap.size w wa) => at_in Wc Hc g2 o2 c2 a b (z2 (b * Wc + a)) wa (by omega) (by omega) haw hbw (cell_later hba (hz2 _ (by omega))))
          have ea : (i : Int) - x = (a : Int) := ha
          have eb : (j : Int) - y = (b : Int) := hb
          obtain ⟨q2, hq2⟩ : ∃ q, q = z2 (b * Wc + a) := ⟨_, rfl⟩
          rw [← hq2] at HC HR
          clear hz1 hz2 hin ha hb hq2 hfit2
          go_enter Try.func123, Try.ntmps123
          go_wp2_with (first | (go_at_call 50; refine (in_yes _ _ _ _ (by omega)).mono ?_; rintro e w' ⟨rfl, rfl⟩))
          refine HA.out.mono ?_
          rintro e wa ⟨rfl, hba⟩
          have s0 := cell_later hba kx
          have s1 := cell_later hba ky
          have s2 := cell_later hba kc0
          have s3 := cell_later hba kc1
          have s4 := cell_later hba kc2
          have HB := Lib.hid hba
          clear hba kx ky kb0 kb1 kb2 kc0 kc1 kc2 lx ly lc
          go_wp2_with fail
          refine (HC.out wa HB.out).mono ?_
          rintro e wd ⟨rfl, hbd⟩
          go_wp2_with fail
          go_ret
          exact ⟨ret_bool HR.out.symm, below_step HB.out hbd⟩
        · have HR := Lib.hid (show pasteAt W Wc Hc x y z1 z2 i j = false by rw [HP.out, decide_eq_false hin]; simp)
          have HC := Lib.hid (fun (wa : World) => at_out Wc Hc g2 o2 (Wc * Hc) c2 ((i : Int) - x) ((j : Int) - y) (some ⟨g2, o2, none⟩) wa (by omega) (by omega) (fun k => hin ⟨⟨by omega, by omega⟩, ⟨by omega, by omega⟩⟩))
          clear hz1 hz2 hin
          go_enter Try.func123, Try.ntmps123
          go_wp2_with (first | (go_at_call 50; refine (in_yes _ _ _ _ (by omega)).mono ?_; rintro e w' ⟨rfl, rfl⟩))
          refine HA.out.mono ?_
          rintro e wa ⟨rfl, hba⟩
          have s0 := cell_later hba kx
          have s1 := cell_later hba ky
          have s2 := cell_later hba kc0
          have s3 := cell_later hba kc1
          have s4 := cell_later hba kc2
          have HB := Lib.hid hba
          clear hba kx ky kb0 kb1 kb2 kc0 kc1 kc2 lx ly lc
          go_wp2_with fail
          refine (HC.out wa).mono ?_
          rintro e wd ⟨rfl, hbd⟩
          go_wp2_with fail
          go_ret
          exact ⟨ret_bool HR.out.symm, below_step HB.out hbd⟩
    · have hin : ¬ InC Wc Hc x y i j := fun hin => n2 (by have h1 := hin.2.1; have h2 := hin.2.2; omega)
      have HR := Lib.hid (show pasteAt W Wc Hc x y z1 z2 i j = q1 by rw [HP.out, decide_eq_false hin]; simp)
      have N2 := Lib.hid n2
      clear hz1 hz2 hin n2
      cases q1
      · go_enter Try.func123, Try.ntmps123
        go_wp2_with (first | (go_at_call 50; refine (in_yes _ _ _ _ (by omega)).mono ?_; rintro e w' ⟨rfl, rfl⟩) | (go_at_call 50; refine (in_no _ _ _ _ (by have := N2.out; omega)).mono ?_; rintro e w' ⟨rfl, rfl⟩) | (go_at_call 44; refine HA.out.mono ?_; rintro e wa ⟨rfl, hba⟩))
        go_ret
        exact ⟨ret_bool HR.out.symm, hba⟩
      · go_enter Try.func123, Try.ntmps123
        go_wp2_with (first | (go_at_call 50; refine (in_yes _ _ _ _ (by omega)).mono ?_; rintro e w' ⟨rfl, rfl⟩) | (go_at_call 50; refine (in_no _ _ _ _ (by have := N2.out; omega)).mono ?_; rintro e w' ⟨rfl, rfl⟩) | (go_at_call 44; refine HA.out.mono ?_; rintro e wa ⟨rfl, hba⟩))
        go_ret
        exact ⟨ret_bool HR.out.symm, hba⟩
  · have hin : ¬ InC Wc Hc x y i j := fun hin => n1 (by have h1 := hin.1.1; have h2 := hin.1.2; omega)
    have HR := Lib.hid (show pasteAt W Wc Hc x y z1 z2 i j = q1 by rw [HP.out, decide_eq_false hin]; simp)
    have N1 := Lib.hid n1
    clear hz1 hz2 hin n1
    cases q1
    · go_enter Try.func123, Try.ntmps123
      go_wp2_with (first | (go_at_call 50; refine (in_no _ _ _ _ (by have := N1.out; omega)).mono ?_; rintro e w' ⟨rfl, rfl⟩) | (go_at_call 44; refine HA.out.mono ?_; rintro e wa ⟨rfl, hba⟩))
      go_ret
      exact ⟨ret_bool HR.out.symm, hba⟩
    · go_enter Try.func123, Try.ntmps123
      go_wp2_with (first | (go_at_call 50; refine (in_no _ _ _ _ (by have := N1.out; omega)).mono ?_; rintro e w' ⟨rfl, rfl⟩) | (go_at_call 44; refine HA.out.mono ?_; rintro e wa ⟨rfl, hba⟩))
      go_ret
      exact ⟨ret_bool HR.out.symm, hba⟩

end Go.Proofs.Ytejhmobpepllcaa
