/-
  Contracts of meanOfFour and of the closure of MixesMatch that does the same: the mean of at most four pixels, rounded.
-/
import Derived.Test.YtejhmobpepllcaaMmb
import Derived.Test.YtejhmobpepllcaaFillY
namespace Go.Proofs.Ytejhmobpepllcaa
open Go.RowKit
set_option linter.unusedSimpArgs false
set_option linter.unusedVariables false

/-- The mean of the pixels of a square of two by two from (2x, 2y) on, as far as they are there. -/
def mean4 (P : Nat → Int) (W H x y : Nat) : Int :=
  (2 * rectSum P W (2 * y) (2 * x) (min (2 * x + 2) W - 2 * x) (min (2 * y + 2) H - 2 * y) + (((min (2 * x + 2) W - 2 * x) * (min (2 * y + 2) H - 2 * y) : Nat) : Int)) / (2 * (((min (2 * x + 2) W - 2 * x) * (min (2 * y + 2) H - 2 * y) : Nat) : Int))

theorem mean4_end (P : Nat → Int) (hP : ∀ j, 0 ≤ P j ∧ P j ≤ 255) (W H T L Rm Bm j x y : Nat) (ss mm : Int)
    (hjs : Hid (ss = rectSum P W T L (Rm + 1 - L) (j - T) ∧ mm = (((Rm + 1 - L) * (j - T) : Nat) : Int))) (hj : j = Bm + 1)
    (hT : T = 2 * y) (hL : L = 2 * x) (hB : Bm = min (2 * y + 2) H - 1) (hR : Rm = min (2 * x + 2) W - 1) (hx : 2 * x < W) (hy : 2 * y < H) :
    1 ≤ mm ∧ (2 * ss + mm) / (2 * mm) = mean4 P W H x y ∧ 0 ≤ (2 * ss + mm) / (2 * mm) ∧ (2 * ss + mm) / (2 * mm) ≤ 255 := by
  obtain ⟨e1, e2⟩ := hjs.out
  have h1 : Rm + 1 - L = min (2 * x + 2) W - 2 * x := by omega
  have h2 : j - T = min (2 * y + 2) H - 2 * y := by omega
  have hpos := Nat.mul_pos (show 0 < Rm + 1 - L by omega) (show 0 < j - T by omega)
  have hb := rectSum_bounds P hP W T L (Rm + 1 - L) (j - T)
  have hm : 1 ≤ mm := by omega
  refine ⟨hm, ?_, ?_, ?_⟩
  · unfold mean4
    rw [e1, e2, h1, h2, hT, hL]
  · exact Int.ediv_nonneg (by omega) (by omega)
  · have : (2 * ss + mm) / (2 * mm) < 256 := Int.ediv_lt_of_lt_mul (by omega) (by omega)
    omega

set_option maxHeartbeats 1000000 in
set_option maxRecDepth 100000 in
theorem meanOfFour_any (W H x y pb po c : Nat) (P : Nat → Int) (w : World) (hW : W ≤ 4000) (hH : H ≤ 4000) (hN : W * H ≤ 1048576) (hx : 2 * x < W) (hy : 2 * y < H) (hP : ∀ j, 0 ≤ P j ∧ P j ≤ 255)
    (hp : ∀ j, j < W * H → w.cell? ⟨pb, po + j, none⟩ = some (.int .u8 (P j))) :
    Calls Try.prog 119 #[.agg #[.int .i64 W, .int .i64 H, .slice (some ⟨pb, po, none⟩) (W * H) c], .int .i64 (2 * (x : Int)), .int .i64 (2 * (y : Int))] w fun e w' => e = .returned (.int .u8 (mean4 P W H x y)) ∧ Below w.heap.size w w' := by
  have HP := Lib.hid hP
  have HC := Lib.hid (show ∀ j, j < W * H → (w.alloc (.cells #[.int .i64 W, .int .i64 H, .slice (some ⟨pb, po, none⟩) (W * H) c] 27)).cell? ⟨pb, po + j, none⟩ = some (.int .u8 (P j)) from fun j hj => cell_later (new_below _ _) (hp j hj))
  obtain ⟨T, hT⟩ : ∃ T, T = 2 * y := ⟨_, rfl⟩
  obtain ⟨L, hL⟩ : ∃ L, L = 2 * x := ⟨_, rfl⟩
  obtain ⟨Bm, hBm⟩ : ∃ Bm, Bm = min (2 * y + 2) H - 1 := ⟨_, rfl⟩
  obtain ⟨Rm, hRm⟩ : ∃ Rm, Rm = min (2 * x + 2) W - 1 := ⟨_, rfl⟩
  rw [show 2 * (x : Int) = (L : Int) by omega, show 2 * (y : Int) = (T : Int) by omega]
  have eB : min ((T : Int) + 2) (H : Int) = (Bm : Int) + 1 := by omega
  have eR : min ((L : Int) + 2) (W : Int) = (Rm : Int) + 1 := by omega
  have u1 : T ≤ Bm ∧ Bm < H ∧ L ≤ Rm ∧ Rm < W := by omega
  have GT := Lib.hid hT
  have GL := Lib.hid hL
  have GB := Lib.hid hBm
  have GR := Lib.hid hRm
  clear hT hL hBm hRm hP hp
  obtain ⟨u1, u5, u2, u6⟩ := u1
  go_enter Try.func119, Try.ntmps119
  go_wp2_with fail
  obtain ⟨q0, q1, q2, _, _, _⟩ := block3 (w := w.alloc (.cells #[.int .i64 W, .int .i64 H, .slice (some ⟨pb, po, none⟩) (W * H) c] 27)) (heap_alloc_new _ _)
  go_loop [7, 8, 9] (fun s m j => ∃ (k : Nat) (ss mm : Int), T ≤ k ∧ k ≤ Bm + 1 ∧ j = .int .i64 k ∧ s = .int .i64 ss ∧ m = .int .i64 mm ∧ 0 ≤ ss ∧ ss ≤ 300000000 ∧ 0 ≤ mm ∧ mm ≤ 16000000 ∧ Hid (ss = rectSum P W T L (Rm + 1 - L) (k - T) ∧ mm = (((Rm + 1 - L) * (k - T) : Nat) : Int))) (fun _ _ j => Bm + 1 - (intOf j).toNat)
  case atStart => exact ⟨T, 0, 0, Nat.le_refl _, by omega, rfl, rfl, rfl, by omega, by omega, by omega, by omega, Lib.hid ⟨by simp [rectSum], by simp⟩⟩
  case round =>
    obtain ⟨j, ss, mm, hj1, hj2, rfl, rfl, rfl, s0, s1, m0, m1, hjs⟩ := hrel
    by_cases hltj : j ≤ Bm
    · go_wp2_with fail
      go_loop [7, 8, 10] (fun s m i => ∃ (k : Nat) (sv mv : Int), L ≤ k ∧ k ≤ Rm + 1 ∧ i = .int .i64 k ∧ s = .int .i64 sv ∧ m = .int .i64 mv ∧ 0 ≤ sv ∧ sv ≤ 300000000 ∧ 0 ≤ mv ∧ mv ≤ 16000000 ∧ Hid (sv = ss + rowSum P (j * W + L) (k - L) ∧ mv = mm + ((k - L : Nat) : Int))) (fun _ _ i => Rm + 1 - (intOf i).toNat)
      case atStart => exact ⟨L, ss, mm, Nat.le_refl _, by omega, rfl, rfl, rfl, s0, s1, m0, m1, Lib.hid ⟨by simp [rowSum], by simp⟩⟩
      case round =>
        obtain ⟨i, sv, mv, hi1, hi2, rfl, rfl, rfl, v0, v1, n0, n1, his⟩ := hrel
        by_cases hlti : i ≤ Rm
        · have hfit := row_fits (show j < H by omega) (show i + 1 ≤ W by omega)
          have hpx := HC.out (j * W + i) (by omega)
          have hpv := HP.out (j * W + i)
          obtain ⟨p, hpe⟩ : ∃ p, p = P (j * W + i) := ⟨_, rfl⟩
          rw [← hpe] at hpx hpv
          have EP := Lib.hid hpe
          clear hpe
          have x0 : (0 : Int) ≤ (j : Int) * (W : Int) := Int.mul_nonneg (by omega) (by omega)
          have x1 : (j : Int) * (W : Int) + (i : Int) < (W : Int) * (H : Int) := by rw [← Int.natCast_mul, ← Int.natCast_mul]; omega
          have x2 : (j : Int) * (W : Int) + (i : Int) < ((W * H : Nat) : Int) := by rw [← Int.natCast_mul]; omega
          have x3 : (j : Int) * (W : Int) ≤ 16000000 := by
            have := Nat.mul_le_mul (show j ≤ 4000 by omega) hW
            rw [← Int.natCast_mul]; omega
          clear hfit
          go_wp2_with fail
          have R := mm_step P W H T L Rm Bm j i ss sv mm mv p HP.out EP.out hjs his (Or.inl trivial) u5 u6 hj1 hj2 hi1 hlti hltj hN hW hH
          go_round
          case rel => exact ⟨i + 1, sv + p, mv + 1, by omega, by omega, by go_num, rfl, rfl, by omega, R.2.1, by omega, R.2.2, Lib.hid R.1⟩
          case measure => simp [intOf]; omega
        · have R := mm_row P W H T L Rm Bm j i ss sv mm mv HP.out hjs his (Or.inl trivial) u5 u6 hj1 hj2 (show i = Rm + 1 by omega) u2
          go_wp2_with fail
          go_round
          case rel => exact ⟨j + 1, sv, mv, by omega, by omega, by go_num, rfl, rfl, v0, v1, n0, n1, Lib.hid R⟩
          case measure => simp [intOf]; omega
    · have hmm := mean4_end P HP.out W H T L Rm Bm j x y ss mm hjs (show j = Bm + 1 by omega) GT.out GL.out GB.out GR.out hx hy
      have hm1 : 1 ≤ mm := hmm.1
      have HV := Lib.hid hmm.2.1
      have hv0 := hmm.2.2.1
      have hv1 := hmm.2.2.2
      clear hmm
      go_wp2_with (first | (go_at_call 135; refine (rounded_any _ _ _ s0 (by omega) hm1 (by omega)).mono ?_; rintro e wq ⟨rfl, rfl⟩))
      go_ret
      exact ⟨ret_int HV.out, new_below _ _⟩

end Go.Proofs.Ytejhmobpepllcaa
