/-
  clean.Level and clean.Auto of a right page.
-/
import Derived.Test.YtejhmobpepllcaaLevC
import Derived.Test.YtejhmobpepllcaaToG
namespace Go.Proofs.Ytejhmobpepllcaa
open Go.RowKit
set_option linter.unusedSimpArgs false
set_option linter.unusedVariables false

theorem mean_int (z : Nat → Int) (n g cp : Nat) (a b : Int) (w : World) (hz : ∀ j, 0 ≤ z j ∧ z j ≤ 255) (hn : n ≤ 1048576) (ha : 0 ≤ a) (hab : a ≤ b) (hb : b ≤ 256)
    (hc : ∀ k, k < 256 → w.cell? ⟨g, 0 + k, none⟩ = some (.int .i64 ((histN z n k : Nat) : Int))) :
    Calls Try.prog 139 #[.slice (some ⟨g, 0, none⟩) 256 cp, .int .i64 a, .int .i64 b] w fun e w' =>
      e = .returned (.tuple #[.int .i64 (meanR z a b n), .bool (meanOk z a b n)]) ∧ w = w' := by
  obtain ⟨A, rfl⟩ := Int.eq_ofNat_of_zero_le ha
  obtain ⟨B, rfl⟩ := Int.eq_ofNat_of_zero_le (by omega : 0 ≤ b)
  exact mean_any z n g cp A B w hz hn (by omega) (by omega) hc

/-- What Level returns of a right page. -/
def LevelR (z : Nat → Int) (n : Nat) (w : World) (e : Ending) (w' : World) : Prop :=
  ∃ mn mx : Int, IsMin z n mn ∧ IsMax z n mx ∧ e = .returned (.tuple #[.int .i64 (levelGo z n 100 ((mn + mx + 1) / 2)), .int .i64 0]) ∧ Below w.heap.size w w'

set_option maxHeartbeats 1000000 in
set_option maxRecDepth 100000 in
theorem level_ok (W H g o n c : Nat) (z : Nat → Int) (w : World) (hs : sizeErr W H = 0) (hn : n = W * H) (hzb : ∀ j, 0 ≤ z j ∧ z j ≤ 255)
    (hp : ∀ j, j < n → w.cell? ⟨g, o + j, none⟩ = some (.int .u8 (z j))) :
    Calls Try.prog 79 #[.agg #[.int .i64 W, .int .i64 H, .slice (some ⟨g, o, none⟩) n c]] w (LevelR z n w) := by
  obtain ⟨⟨a1, a2, a3, a4⟩, z0, z1⟩ := sizeErr_zero hs
  have hN : n ≤ 1048576 := by rw [hn]; rw [← Int.natCast_mul] at z1; omega
  have hn1 : 1 ≤ n := by rw [hn]; exact Nat.mul_pos (by omega) (by omega)
  have HS := Lib.hid hs
  have HN := Lib.hid hn
  have HZ := Lib.hid hzb
  have HC := Lib.hid hp
  clear hs hn hzb hp z0 z1
  go_enter Try.func79, Try.ntmps79
  go_wp2_with fail
  have B1 := new_below w (.cells #[.int .i64 W, .int .i64 H, .slice (some ⟨g, o, none⟩) n c] 27)
  refine (histogram_ok W H g o n c z _ HS.out HN.out HZ.out (fun j hj => cell_later B1 (HC.out j hj))).mono ?_
  rintro e w1 ⟨v, rfl, hown, hb⟩
  obtain ⟨gh, ch, rfl, _, hcnt⟩ := owns_nums hown (by omega)
  have HB := Lib.hid (below_step B1 hb)
  have HCN := Lib.hid hcnt
  clear hown hcnt hb B1
  go_wp2_with fail
  refine (extremes_any (histN z n) gh ch w1 HCN.out).mono ?_
  rintro e w2 ⟨lo, hi, rfl, hlh, rfl⟩
  obtain ⟨b1, b2, b3, b4⟩ := hlh.bounds (Nat.le_refl _)
  obtain ⟨hmin, hmax⟩ := hlh.ends HZ.out hn1
  have b5 : lo ≤ 255 := by
    obtain ⟨j, _, e⟩ := hmin.1
    have := (HZ.out j).2
    omega
  have HMIN := Lib.hid hmin
  have HMAX := Lib.hid hmax
  obtain ⟨T0, hT0⟩ : ∃ T0 : Nat, (lo + hi + 1) / 2 = (T0 : Int) := Int.eq_ofNat_of_zero_le (by omega)
  have hT1 : T0 ≤ 255 := by omega
  have HT0 := Lib.hid hT0
  clear hlh hmin hmax hT0
  go_wp2_with (go_at_call 138; refine (halfUp_any lo hi _ ⟨b1, by omega⟩ ⟨b3, by omega⟩).mono ?_; rintro e w' ⟨rfl, rfl⟩; rw [HT0.out])
  go_loop [8, 30] (fun l i => ∃ k T : Nat, k ≤ 100 ∧ i = .int .i64 k ∧ l = .int .i64 T ∧ T ≤ 255 ∧ Hid (levelGo z n (100 - k) (T : Int) = levelGo z n 100 (T0 : Int))) (fun _ i => 100 - (intOf i).toNat)
  case atStart => exact ⟨0, T0, by omega, rfl, rfl, hT1, Lib.hid rfl⟩
  case round =>
    obtain ⟨k, T, hk, rfl, rfl, hT, hg⟩ := hrel
    by_cases hlt : k < 100
    · have hk1 : 100 - k = (99 - k) + 1 := by omega
      have HG := Lib.hid (show levelGo z n ((99 - k) + 1) (T : Int) = levelGo z n 100 (T0 : Int) by rw [← hk1]; exact hg.out)
      clear hk1 hg
      by_cases hstop : cntIn z 0 T n = 0 ∨ cntIn z T 256 n = 0
      · have hres := Lib.hid ((levelGo_stop hstop).symm.trans HG.out)
        by_cases h0 : cntIn z 0 T n = 0
        · have e0 : meanOk z 0 T n = false := decide_eq_false (fun h => h h0)
          clear hstop h0
          go_wp2_with (go_at_call 139; refine (mean_int z n gh ch _ _ _ HZ.out hN (by omega) (by omega) (by omega) HCN.out).mono ?_; rintro e w' ⟨rfl, rfl⟩)
          go_ret2
          exact ⟨lo, hi, HMIN.out, HMAX.out, by rw [HT0.out, ← hres.out]; rfl, HB.out⟩
        · have e0 : meanOk z 0 T n = true := decide_eq_true h0
          have e1 : meanOk z T 256 n = false := decide_eq_false (fun h => h (hstop.resolve_left h0))
          clear hstop h0
          go_wp2_with (go_at_call 139; refine (mean_int z n gh ch _ _ _ HZ.out hN (by omega) (by omega) (by omega) HCN.out).mono ?_; rintro e w' ⟨rfl, rfl⟩)
          go_ret2
          exact ⟨lo, hi, HMIN.out, HMAX.out, by rw [HT0.out, ← hres.out]; rfl, HB.out⟩
      · have e0 : meanOk z 0 T n = true := decide_eq_true (fun h => hstop (.inl h))
        have e1 : meanOk z T 256 n = true := decide_eq_true (fun h => hstop (.inr h))
        have f0 := meanIn_bounds z HZ.out 0 T n (fun h => hstop (.inl h))
        have f1 := meanIn_bounds z HZ.out T 256 n (fun h => hstop (.inr h))
        have m0 : meanR z 0 T n = meanIn z 0 T n := if_neg (fun h => hstop (.inl h))
        have m1 : meanR z T 256 n = meanIn z T 256 n := if_neg (fun h => hstop (.inr h))
        rw [← m0] at f0
        rw [← m1] at f1
        have hnx : levelNext z n T = (meanR z 0 T n + meanR z T 256 n + 1) / 2 := by unfold levelNext; rw [m0, m1]
        obtain ⟨X, hX⟩ : ∃ X : Nat, (meanR z 0 T n + meanR z T 256 n + 1) / 2 = (X : Int) := Int.eq_ofNat_of_zero_le (by omega)
        have hX1 : X ≤ 255 := by omega
        have HX := Lib.hid hX
        have HST := Lib.hid hstop
        have HNX := Lib.hid (hnx.trans hX)
        clear hstop m0 m1 hnx hX
        by_cases heq : X = T
        · subst heq
          have hres := Lib.hid ((levelGo_same HST.out HNX.out).symm.trans HG.out)
          go_wp2_with (first | (go_at_call 139; refine (mean_int z n gh ch _ _ _ HZ.out hN (by omega) (by omega) (by omega) HCN.out).mono ?_; rintro e w' ⟨rfl, rfl⟩) | (go_at_call 138; refine (halfUp_any _ _ _ ⟨f0.1, by omega⟩ ⟨f1.1, by omega⟩).mono ?_; rintro e w' ⟨rfl, rfl⟩; rw [HX.out]))
          go_ret2
          exact ⟨lo, hi, HMIN.out, HMAX.out, by rw [HT0.out, ← hres.out]; rfl, HB.out⟩
        · have hne : ((X : Int) == (T : Int)) = false := by simpa using (by omega : ¬ (X : Int) = (T : Int))
          have hne' : (X == T) = false := by simpa using heq
          have hres := Lib.hid ((levelGo_next HST.out (by rw [HNX.out]; omega)).symm.trans HG.out)
          clear heq
          go_wp2_with (first | (go_at_call 139; refine (mean_int z n gh ch _ _ _ HZ.out hN (by omega) (by omega) (by omega) HCN.out).mono ?_; rintro e w' ⟨rfl, rfl⟩) | (go_at_call 138; refine (halfUp_any _ _ _ ⟨f0.1, by omega⟩ ⟨f1.1, by omega⟩).mono ?_; rintro e w' ⟨rfl, rfl⟩; rw [HX.out]))
          go_round
          case rel => exact ⟨k + 1, X, by omega, by go_num, rfl, hX1, Lib.hid (by rw [show 100 - (k + 1) = 99 - k by omega, ← HNX.out]; exact hres.out)⟩
          case measure => simp [intOf]; omega
    · obtain rfl : k = 100 := by omega
      have hres := Lib.hid (show (T : Int) = levelGo z n 100 (T0 : Int) from hg.out)
      clear hg
      go_wp2_with fail
      go_ret2
      exact ⟨lo, hi, HMIN.out, HMAX.out, by rw [HT0.out, ← hres.out]; rfl, HB.out⟩

end Go.Proofs.Ytejhmobpepllcaa
