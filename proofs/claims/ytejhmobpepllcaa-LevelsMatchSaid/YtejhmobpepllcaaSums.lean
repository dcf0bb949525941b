/-
  The contract of page.sumsBefore: for each corner between pixels, the sum of all values above and left of it; the function value that tells the values may make memory of its own, and turns nothing that was there.
-/
import Derived.Test.YtejhmobpepllcaaFill
import Derived.Test.YtejhmobpepllcaaArea
import Derived.Shelf.Abstract
namespace Go.Proofs.Ytejhmobpepllcaa
open Go.RowKit
set_option linter.unusedSimpArgs false
set_option linter.unusedVariables false

set_option maxHeartbeats 1000000 in
set_option maxRecDepth 100000 in
theorem sumsBefore_any (W H M g : Nat) (capt : Array Value) (P : Nat → Int) (w : World) (hM : M = (W + 1) * (H + 1)) (hP : ∀ j, 0 ≤ P j ∧ P j ≤ 255) (hW : 1 ≤ W) (hW' : W ≤ 4000) (hH : H ≤ 4000) (hN : W * H ≤ 1048576)
    (eg : ∀ (args : Array Value) (W : World), (callFunc g args).run Try.prog W = .ok (.enter g args) W)
    (hc : ∀ (x y : Nat) (W' : World), x < W → y < H → Below w.heap.size w W' → Calls Try.prog g (#[.int .i64 x, .int .i64 y] ++ capt) W' fun e W'' => e = .returned (.int .i64 (P (y * W + x))) ∧ Below W'.heap.size W' W'') :
    Calls Try.prog 172 #[.int .i64 W, .int .i64 H, .func (.func g) #[] capt] w fun e w' =>
      ∃ gg, e = .returned (.slice (some ⟨gg, 0, none⟩) M M) ∧ w'.ownsRow w.heap.size 3 1 (.slice (some ⟨gg, 0, none⟩) M M) M (sumList P W H H 0) ∧ Below w.heap.size w w' := by
  obtain ⟨i0, hi, hz0, hz1, hz2⟩ := info_parts info_int
  have hbig : M = W * H + W + H + 1 := by rw [hM]; simp only [Nat.add_mul, Nat.mul_add, Nat.one_mul, Nat.mul_one]; omega
  have hM' : M ≤ 1100000 := by omega
  have hMi : ((W : Int) + 1) * ((H : Int) + 1) = (M : Int) := by rw [hM]; simp [Int.natCast_mul]
  have m0 : (0 : Int) ≤ ((W : Int) + 1) * ((H : Int) + 1) := by omega
  have m1 : ((W : Int) + 1) * ((H : Int) + 1) ≤ 1100000 := by omega
  have HM := Lib.hid hM
  have HMi := Lib.hid hMi
  have HC := Lib.hid hc
  have HPb := Lib.hid hP
  clear hc hP hM hMi hbig
  go_enter Try.func172, Try.ntmps172
  go_wp2_with (at_make; refine wpList_make_full _ rfl _ _ 69 rfl w.heap.size 3 i0 (.int .i64 0) 1 Try.underlying69 hi hz0 hz1 _ _ _ _ M rfl rfl HMi.out HMi.out (by rw [hz2]; omega) (by unfold maxLen; omega) (Nat.le_refl _) ?_)
  intro w1 hown1 hgrow1
  have hb1 : Below w.heap.size w w1 := (Below.refl _ _).grown hgrow1 (Nat.le_refl _) (by simp)
  simp only [toList_madeCells_one, Nat.mul_one] at hown1
  rw [HM.out, ← sumList_start P W H, ← HM.out] at hown1
  clear hgrow1
  go_wp2
  go_loopw [20] (fun i wr => ∃ y : Nat, y ≤ H ∧ i = .int .i64 y ∧ wr.ownsRow w.heap.size 3 1 (.slice (some ⟨w.heap.size, 0, none⟩) M M) M (sumList P W H y 0) ∧ Below w.heap.size w wr) (fun i _ => H - (intOf i).toNat)
  case atStart => exact ⟨0, Nat.zero_le _, rfl, hown1, hb1⟩
  case round =>
    obtain ⟨y, hy, rfl, hown, hb⟩ := hrel
    clear hown1 hb1
    by_cases hlt : y < H
    · obtain ⟨wo, rfl⟩ : ∃ wo : World, wo = wr := ⟨_, rfl⟩
      go_wp2
      go_loopw [10, 24] (fun s i wr => ∃ x : Nat, x ≤ W ∧ i = .int .i64 x ∧ s = .int .i64 (rowSum P (y * W) x) ∧ wr.ownsRow w.heap.size 3 1 (.slice (some ⟨w.heap.size, 0, none⟩) M M) M (sumList P W H y x) ∧ Below w.heap.size w wr) (fun _ i _ => W - (intOf i).toNat)
      case atStart => exact ⟨0, Nat.zero_le _, rfl, rfl, hown, hb⟩
      case round =>
        obtain ⟨x, hx, rfl, rfl, hownr, hbr⟩ := hrel
        clear hown hb
        by_cases hltx : x < W
        · have hfit2 : (y + 1) * (W + 1) + x + 1 < M := by
            have := Nat.mul_le_mul_right (W + 1) (show y + 2 ≤ H + 1 by omega)
            rw [HM.out, Nat.mul_comm (W + 1) (H + 1)]
            rw [Nat.add_mul y 2] at this
            rw [Nat.add_mul y 1]
            omega
          have hfit3 : y * (W + 1) + x + 1 < M := by
            rw [Nat.add_mul y 1] at hfit2
            omega
          have hpv := HPb.out (y * W + x)
          have hrv := rowSum_bounds P HPb.out (y * W) x
          have hrc := rectSum_bounds P HPb.out W 0 0 (x + 1) y
          have hR1 := Lib.hid (show rowSum P (y * W) (x + 1) = rowSum P (y * W) x + P (y * W + x) from rfl)
          have hR2 := Lib.hid (show rectSum P W 0 0 (x + 1) (y + 1) = rectSum P W 0 0 (x + 1) y + rowSum P (y * W) (x + 1) by simp [rectSum])
          have HC' := Lib.hid (HC.out x y wr hltx hlt hbr)
          have hs0 := Lib.hid (sumList_get P W H y x y (x + 1) (by omega) (by omega) (Or.inl (Nat.le_refl _)))
          obtain ⟨p, hpe⟩ : ∃ p, p = P (y * W + x) := ⟨_, rfl⟩
          obtain ⟨s, hse⟩ : ∃ s, s = rowSum P (y * W) x := ⟨_, rfl⟩
          obtain ⟨r, hre⟩ : ∃ r, r = rectSum P W 0 0 (x + 1) y := ⟨_, rfl⟩
          rw [← hpe] at hpv HC'
          rw [← hse] at hrv ⊢
          rw [← hre] at hs0 hrc
          have E1 := Lib.hid hpe
          have E2 := Lib.hid hse
          have E3 := Lib.hid hre
          have HO := Lib.hid hownr
          have HBR := Lib.hid hbr
          clear hpe hse hre hownr hbr
          have hrc' : r ≤ 300000000 := by
            have := Nat.mul_le_mul (show x + 1 ≤ W by omega) (show y ≤ H by omega)
            omega
          have hrv' : s ≤ 300000000 := by omega
          have hrc0 := hrc.1
          have hrv0 := hrv.1
          clear hrc hrv
          have x2 : (0 : Int) ≤ (y : Int) * ((W : Int) + 1) := Int.mul_nonneg (by omega) (by omega)
          have x3 : (0 : Int) ≤ ((y : Int) + 1) * ((W : Int) + 1) := Int.mul_nonneg (by omega) (by omega)
          have x4 : ((y : Int) + 1) * ((W : Int) + 1) + (x : Int) + 1 < (M : Int) := by
            have : (((y + 1) * (W + 1) + x + 1 : Nat) : Int) < (M : Int) := by omega
            simpa [Int.natCast_mul] using this
          have x5 : (y : Int) * ((W : Int) + 1) + (x : Int) + 1 < (M : Int) := by
            have : ((y * (W + 1) + x + 1 : Nat) : Int) < (M : Int) := by omega
            simpa [Int.natCast_mul] using this
          have F2 := Lib.hid hfit2
          have F3 := Lib.hid hfit3
          clear m0 m1 hfit2 hfit3
          go_wp2_with fail
          go_at_fn g
          refine HC'.out.mono ?_
          rintro e w' ⟨rfl, hb'⟩
          have hown' := below_owns HO.out hb'
          have hbw' := HBR.out.trans (hb'.mono HBR.out.size)
          have hs := (hown'.cellAt (y * (W + 1) + x + 1) (by have := F3.out; omega)).trans hs0.out
          have ht := hown'.cellAt ((y + 1) * (W + 1) + x + 1) (by have := F2.out; omega)
          rw [List.getElem?_eq_getElem (by rw [hown'.1]; have := F2.out; omega)] at ht
          obtain ⟨t, hte⟩ : ∃ t, t = (sumList P W H y x)[(y + 1) * (W + 1) + x + 1]'(by rw [hown'.1]; have := F2.out; omega) := ⟨_, rfl⟩
          rw [← hte] at ht
          clear hte
          have hfz := hown'.frozenAt ((y + 1) * (W + 1) + x + 1)
          have HO' := Lib.hid hown'
          have HB' := Lib.hid hbw'
          clear hown' hbw' hb'
          go_wp2
          go_roundw
          case rel =>
            refine ⟨x + 1, by omega, by go_num, ?_, ?_, ?_⟩
            · rw [hR1.out, ← E1.out, ← E2.out]
            · have := (HO'.out.stored ((y + 1) * (W + 1) + x + 1) (.int .i64 (r + (s + p)))).1
              rw [show r + (s + p) = rectSum P W 0 0 (x + 1) (y + 1) by rw [hR2.out, hR1.out, ← E1.out, ← E2.out, ← E3.out], sumList_step P W H y x hltx hlt] at this
              rw [show r + (s + p) = rectSum P W 0 0 (x + 1) (y + 1) by rw [hR2.out, hR1.out, ← E1.out, ← E2.out, ← E3.out]]
              exact this
            · exact HB'.out.setCell (Nat.le_refl _) _
          case measure => simp [intOf]; omega
        · have hxe : x = W := by omega
          have HX := Lib.hid hxe
          clear hxe
          go_wp2
          go_roundw
          case rel => exact ⟨y + 1, by omega, by go_num, by have h := hownr; rw [HX.out, sumList_row] at h; exact h, hbr⟩
          case measure => simp [intOf]; omega
    · have HY := Lib.hid (show y = H by omega)
      go_wp2
      go_ret
      exact ⟨_, rfl, by have h := hown; rw [HY.out] at h; exact h, hb⟩

end Go.Proofs.Ytejhmobpepllcaa
