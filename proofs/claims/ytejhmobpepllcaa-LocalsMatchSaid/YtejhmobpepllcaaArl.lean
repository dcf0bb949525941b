/-
  The reference's around: the values of the square around a pixel, in the page, row by row.
-/
import Derived.Test.YtejhmobpepllcaaAround
import Derived.Test.YtejhmobpepllcaaSmall
import Derived.Lib.MinMax
namespace Go.Proofs.Ytejhmobpepllcaa
open Go.RowKit
set_option linter.unusedSimpArgs false
set_option linter.unusedVariables false

def rowVals (P : Nat → Int) (k n : Nat) : List Int := (List.range n).map fun i => P (k + i)
def rectVals (P : Nat → Int) (W y x nx : Nat) : Nat → List Int
  | 0 => []
  | n + 1 => rectVals P W y x nx n ++ rowVals P ((y + n) * W + x) nx

theorem rowVals_succ (P : Nat → Int) (k n : Nat) : rowVals P k (n + 1) = rowVals P k n ++ [P (k + n)] := by simp [rowVals, List.range_succ]
theorem rowVals_length (P : Nat → Int) (k n : Nat) : (rowVals P k n).length = n := by simp [rowVals]
theorem rectVals_length (P : Nat → Int) (W y x nx n : Nat) : (rectVals P W y x nx n).length = nx * n := by
  induction n with
  | zero => rfl
  | succ n ih => simp [rectVals, ih, rowVals_length, Nat.mul_add]
theorem rowVals_sum (P : Nat → Int) (k n : Nat) : (rowVals P k n).sum = rowSum P k n := by
  induction n with
  | zero => rfl
  | succ n ih => rw [rowVals_succ]; simp [ih, rowSum]
theorem rectVals_sum (P : Nat → Int) (W y x nx n : Nat) : (rectVals P W y x nx n).sum = rectSum P W y x nx n := by
  induction n with
  | zero => rfl
  | succ n ih => simp [rectVals, ih, rectSum, rowVals_sum]
theorem rectVals_bounds (P : Nat → Int) (hP : ∀ j, 0 ≤ P j ∧ P j ≤ 255) (W y x nx n : Nat) : ∀ v ∈ rectVals P W y x nx n, 0 ≤ v ∧ v ≤ 255 := by
  induction n with
  | zero => intro v hv; cases hv
  | succ n ih =>
    intro v hv
    rcases List.mem_append.1 hv with h | h
    · exact ih v h
    · obtain ⟨i, _, rfl⟩ := List.mem_map.1 h
      exact hP _

set_option maxHeartbeats 1000000 in
set_option maxRecDepth 100000 in
theorem aroundR_any (W H pb po c x y r : Nat) (P : Nat → Int) (w : World) (hP : ∀ j, 0 ≤ P j ∧ P j ≤ 255) (hW : W ≤ 4000) (hH : H ≤ 4000) (hN : W * H ≤ 1048576) (hx : x < W) (hy : y < H) (hr : r ≤ 1000)
    (hp : ∀ j, j < W * H → w.cell? ⟨pb, po + j, none⟩ = some (.int .u8 (P j))) :
    Calls Try.prog 147 #[.agg #[.int .i64 W, .int .i64 H, .slice (some ⟨pb, po, none⟩) (W * H) c], .int .i64 x, .int .i64 y, .int .i64 r] w fun e w' =>
      ∃ v, e = .returned v ∧ w'.ownsRow w.heap.size 3 1 v ((min (x + r + 1) W - (x - r)) * (min (y + r + 1) H - (y - r))) ((rectVals P W (y - r) (x - r) (min (x + r + 1) W - (x - r)) (min (y + r + 1) H - (y - r))).map (Value.int .i64)) ∧ Below w.heap.size w w' := by
  obtain ⟨i0, hi, hz0, hz1, hz2⟩ := info_parts info_int
  obtain ⟨T, hT⟩ : ∃ T, T = y - r := ⟨_, rfl⟩
  obtain ⟨L, hL⟩ : ∃ L, L = x - r := ⟨_, rfl⟩
  obtain ⟨Bm, hBm⟩ : ∃ Bm, Bm = min (H - 1) (y + r) := ⟨_, rfl⟩
  obtain ⟨Rm, hRm⟩ : ∃ Rm, Rm = min (W - 1) (x + r) := ⟨_, rfl⟩
  have eT : max ((y : Int) - (r : Int)) 0 = (T : Int) := by omega
  have eL : max ((x : Int) - (r : Int)) 0 = (L : Int) := by omega
  have eB : min ((y : Int) + (r : Int)) ((H : Int) - 1) = (Bm : Int) := by omega
  have eR : min ((x : Int) + (r : Int)) ((W : Int) - 1) = (Rm : Int) := by omega
  obtain ⟨u1, u3, u5⟩ : T ≤ y ∧ y ≤ Bm ∧ Bm < H := by omega
  obtain ⟨u2, u4, u6⟩ : L ≤ x ∧ x ≤ Rm ∧ Rm < W := by omega
  obtain ⟨nx, hnx⟩ : ∃ nx, nx = min (x + r + 1) W - (x - r) := ⟨_, rfl⟩
  obtain ⟨ny, hny⟩ : ∃ ny, ny = min (y + r + 1) H - (y - r) := ⟨_, rfl⟩
  have v1 : nx = Rm + 1 - L := by omega
  have v2 : ny = Bm + 1 - T := by omega
  have hmx := Nat.mul_le_mul (show nx ≤ W by omega) (show ny ≤ H by omega)
  rw [← hnx, ← hny, ← hT, ← hL]
  have V1 := Lib.hid v1
  have V2 := Lib.hid v2
  have HM := Lib.hid hmx
  have HPb := Lib.hid hP
  have HC := Lib.hid hp
  clear hT hL hBm hRm hnx hny v1 v2 hmx hP hp
  go_enter Try.func147, Try.ntmps147
  go_wp2_with fail
  obtain ⟨w1, hw1⟩ : ∃ w1, w1 = w.alloc (.cells #[.int .i64 W, .int .i64 H, .slice (some ⟨pb, po, none⟩) (W * H) c] 27) := ⟨_, rfl⟩
  have B1 : Below w.heap.size w w1 := by rw [hw1]; exact new_below _ _
  obtain ⟨k0, k1, k2, _, _, _⟩ := block3 (w := w1) (b := w.heap.size) (x := .int .i64 W) (y := .int .i64 H) (z := .slice (some ⟨pb, po, none⟩) (W * H) c) (t := 27) (by rw [hw1]; exact heap_alloc_new _ _)
  rw [← hw1]
  clear hw1
  have HC1 := Lib.hid (fun j (hj : j < W * H) => cell_later B1 (HC.out j hj))
  have HB1 := Lib.hid B1
  clear B1
  go_loopw [9, 10] (fun v j wr => ∃ k : Nat, T ≤ k ∧ k ≤ Bm + 1 ∧ j = .int .i64 k ∧ wr.ownsRow w1.heap.size 3 1 v (nx * (k - T)) ((rectVals P W T L nx (k - T)).map (Value.int .i64)) ∧ Below w1.heap.size w1 wr) (fun _ j _ => Bm + 1 - (intOf j).toNat)
  case atStart => exact ⟨T, Nat.le_refl _, by omega, rfl, by simpa [rectVals] using World.ownsRow_nil _ _ _ _, Below.refl _ _⟩
  case round =>
    obtain ⟨j, hj1, hj2, rfl, hown, hb⟩ := hrel
    have c0 := cell_later hb k0
    have c1 := cell_later hb k1
    by_cases hlt : j ≤ Bm
    · obtain ⟨wo, rfl⟩ : ∃ wo : World, wo = wr := ⟨_, rfl⟩
      have hd : decide (j ≤ Bm) = true := decide_eq_true hlt
      have HO := Lib.hid hown
      have HB := Lib.hid hb
      clear hown hb
      go_wp2_with fail
      go_loopw [9, 11] (fun v i wr => ∃ k : Nat, L ≤ k ∧ k ≤ Rm + 1 ∧ i = .int .i64 k ∧ wr.ownsRow w1.heap.size 3 1 v (nx * (j - T) + (k - L)) ((rectVals P W T L nx (j - T) ++ rowVals P (j * W + L) (k - L)).map (Value.int .i64)) ∧ Below w1.heap.size w1 wr) (fun _ i _ => Rm + 1 - (intOf i).toNat)
      case atStart => exact ⟨L, Nat.le_refl _, by omega, rfl, by simpa [rowVals] using HO.out, HB.out⟩
      case round =>
        obtain ⟨i, hi1, hi2, rfl, hownr, hbr⟩ := hrel
        clear c0 c1
        have c0 := cell_later hbr k0
        have c1 := cell_later hbr k1
        have c2 := cell_later hbr k2
        have HO' := Lib.hid hownr
        have HBR := Lib.hid hbr
        clear hownr hbr
        by_cases hlti : i ≤ Rm
        · have hfit := row_fits (show j < H by omega) (show i + 1 ≤ W by omega)
          have hpx := cell_later HBR.out (HC1.out (j * W + i) (by omega))
          have hpv := HPb.out (j * W + i)
          obtain ⟨p, hpe⟩ : ∃ p, p = P (j * W + i) := ⟨_, rfl⟩
          rw [← hpe] at hpx hpv
          have EP := Lib.hid hpe
          have x0 : (0 : Int) ≤ (j : Int) * (W : Int) := Int.mul_nonneg (by omega) (by omega)
          have x1 : (j : Int) * (W : Int) + (i : Int) < (W : Int) * (H : Int) := by rw [← Int.natCast_mul, ← Int.natCast_mul]; omega
          have x2 : (j : Int) * (W : Int) + (i : Int) < ((W * H : Nat) : Int) := by rw [← Int.natCast_mul]; omega
          have hcnt : nx * (j - T) + (i - L) + 1 ≤ 1048576 := by
            have h1 := Nat.mul_le_mul (Nat.le_refl nx) (show j - T + 1 ≤ ny by have := V2.out; omega)
            rw [Nat.mul_add, Nat.mul_one] at h1
            have := HM.out
            have := V1.out
            omega
          clear hfit hpe
          go_wp2_with (at_builtin; refine wpList_append_own _ rfl _ _ 69 rfl w1.heap.size 3 i0 (.int .i64 0) 1 8 Try.underlying69 hi hz0 hz1 hz2 rfl (by decide) _ _ _ rfl (HO'.out.alloc _) ⟨wr.heap.size, 0, none⟩ 1 1 [.int .i64 p] rfl rfl ?c1 ?c2 ?c3 ?c4 ?c5 ?_)
          case c1 => exact cell_one_new _ _ _
          case c2 => intro u hu; simp at hu; subst hu; rfl
          case c3 => unfold maxLen; omega
          case c4 => omega
          case c5 => have h1 := HBR.out.size; simp; omega
          · intro v' w5 hown5 hgr5 _
            have hb5 : Below w1.heap.size w1 w5 := (HBR.out.alloc HBR.out.size _).grown hgr5 (by have h1 := HBR.out.size; simp; omega) (fun k hk => (HO'.out.lt k hk).1)
            have hs := Lib.hid (show rowVals P (j * W + L) (i + 1 - L) = rowVals P (j * W + L) (i - L) ++ [p] by rw [show i + 1 - L = (i - L) + 1 by omega, rowVals_succ, show j * W + L + (i - L) = j * W + i by omega, EP.out])
            have hn := Lib.hid (show nx * (j - T) + (i + 1 - L) = nx * (j - T) + (i - L) + 1 by omega)
            clear hgr5
            go_wp2_with fail
            go_roundw
            case rel => exact ⟨i + 1, by omega, by omega, by go_num, by rw [hs.out, hn.out]; simp only [List.map_append, List.append_assoc, List.map_cons, List.map_nil] at hown5 ⊢; exact hown5, hb5⟩
            case measure => simp [intOf]; omega
        · have hie := Lib.hid (show i = Rm + 1 by omega)
          go_wp2_with fail
          go_roundw
          case rel =>
            refine ⟨j + 1, by omega, by omega, by go_num, ?_, HBR.out⟩
            have h := HO'.out
            rw [show i - L = nx by rw [V1.out, hie.out]] at h
            rw [show j + 1 - T = (j - T) + 1 by omega, rectVals, show T + (j - T) = j by omega, Nat.mul_add, Nat.mul_one]
            exact h
          case measure => simp [intOf]; omega
    · have hje := Lib.hid (show j = Bm + 1 by omega)
      have HO := Lib.hid hown
      have HB := Lib.hid hb
      clear hown hb
      go_wp2_with fail
      go_ret
      refine ⟨_, rfl, ?_, below_step HB1.out HB.out⟩
      have h := HO.out
      rw [show j - T = ny by rw [V2.out, hje.out]] at h
      exact owns_base h HB1.out.size

end Go.Proofs.Ytejhmobpepllcaa
