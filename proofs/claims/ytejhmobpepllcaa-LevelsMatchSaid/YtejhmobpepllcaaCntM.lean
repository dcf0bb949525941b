/-
  Sums of the ink of a box, row by row, and what follows from them.
  page.Ink: the error of the page, else of the box, else how much ink the box has.
-/
import Derived.Test.YtejhmobpepllcaaCutsB
import Derived.Deep.DeepCutAuto
namespace Go.Proofs.Ytejhmobpepllcaa
open Go.RowKit
set_option linter.unusedSimpArgs false
set_option linter.unusedVariables false

/-- The sum of the first n of f. -/
def sumN (f : Nat → Nat) : Nat → Nat
  | 0 => 0
  | n + 1 => sumN f n + f n

theorem sumN_le (f : Nat → Nat) (m : Nat) (h : ∀ j, f j ≤ m) : ∀ n, sumN f n ≤ n * m
  | 0 => by simp [sumN]
  | n + 1 => by
    have h1 := sumN_le f m h n
    have h2 := h n
    rw [sumN, Nat.add_mul]
    omega

theorem sumN_congr {f g : Nat → Nat} : ∀ {n : Nat}, (∀ j, j < n → f j = g j) → sumN f n = sumN g n
  | 0, _ => rfl
  | n + 1, h => by rw [sumN, sumN, sumN_congr fun j hj => h j (by omega), h n (by omega)]

theorem sumN_pos {f : Nat → Nat} : ∀ {n : Nat}, 0 < sumN f n → ∃ j, j < n ∧ 0 < f j
  | 0, h => by simp [sumN] at h
  | n + 1, h => by
    by_cases h1 : 0 < f n
    · exact ⟨n, by omega, h1⟩
    · rw [sumN] at h
      obtain ⟨j, hj, h2⟩ := sumN_pos (f := f) (n := n) (by omega)
      exact ⟨j, by omega, h2⟩

theorem sumN_ge {f : Nat → Nat} : ∀ {n j : Nat}, j < n → f j ≤ sumN f n
  | 0, _, h => by omega
  | n + 1, j, h => by
    rw [sumN]
    by_cases e : j = n
    · subst e; omega
    · have := sumN_ge (f := f) (n := n) (j := j) (by omega)
      omega

/-- The ink of one row of a box. -/
def ink1 (z : Nat → Bool) (W X y : Nat) (n : Nat) : Nat := sumN (fun i => (z (y * W + (X + i))).toNat) n
/-- The ink of a box. -/
def inkB (z : Nat → Bool) (W X Y p q : Nat) : Nat := sumN (fun j => ink1 z W X (Y + j) p) q

theorem toNat_le (b : Bool) : b.toNat ≤ 1 := by cases b <;> simp

theorem ink1_le (z : Nat → Bool) (W X y n : Nat) : ink1 z W X y n ≤ n := by
  have := sumN_le (fun i => (z (y * W + (X + i))).toNat) 1 (fun j => toNat_le _) n
  unfold ink1
  omega

theorem inkB_le (z : Nat → Bool) (W X Y p q : Nat) : inkB z W X Y p q ≤ q * p := sumN_le _ p (fun j => ink1_le _ _ _ _ _) q

theorem ink1_step (z : Nat → Bool) (W X y i : Nat) (h : X ≤ i) : ink1 z W X y (i + 1 - X) = ink1 z W X y (i - X) + (z (y * W + i)).toNat := by
  unfold ink1
  rw [show i + 1 - X = (i - X) + 1 by omega, sumN, show X + (i - X) = i by omega]

theorem inkB_step (z : Nat → Bool) (W X Y p k : Nat) (h : Y ≤ k) : inkB z W X Y p (k + 1 - Y) = inkB z W X Y p (k - Y) + ink1 z W X k p := by
  unfold inkB
  rw [show k + 1 - Y = (k - Y) + 1 by omega, sumN, show Y + (k - Y) = k by omega]

set_option maxHeartbeats 1000000 in
set_option maxRecDepth 100000 in
theorem inkOf_any (W H X Y p q g o c : Nat) (z : Nat → Bool) (w : World) (hW : W ≤ 4000) (hH : H ≤ 4000) (hx : X + p ≤ W) (hy : Y + q ≤ H)
    (hp : ∀ j, j < W * H → w.cell? ⟨g, o + j, none⟩ = some (.bool (z j))) :
    Calls Try.prog 73 #[.agg #[.int .i64 W, .int .i64 H, .slice (some ⟨g, o, none⟩) (W * H) c], .agg #[.int .i64 X, .int .i64 Y, .int .i64 p, .int .i64 q]] w fun e w' => e = .returned (.int .i64 ((inkB z W X Y p q : Nat) : Int)) ∧ Below w.heap.size w w' := by
  obtain ⟨w1, hw1⟩ : ∃ w1, w1 = (w.alloc (.cells #[.int .i64 W, .int .i64 H, .slice (some ⟨g, o, none⟩) (W * H) c] 24)).alloc (.cells #[.int .i64 X, .int .i64 Y, .int .i64 p, .int .i64 q] 29) := ⟨_, rfl⟩
  have B1 : Below w.heap.size w w1 := by rw [hw1]; exact below_alloc (new_below _ _) _
  have q0 : w1.cell? ⟨w.heap.size, 0, none⟩ = some (.int .i64 W) := by rw [hw1]; go_simp
  have q1 : w1.cell? ⟨w.heap.size, 1, none⟩ = some (.int .i64 H) := by rw [hw1]; go_simp
  have q2 : w1.cell? ⟨w.heap.size, 2, none⟩ = some (.slice (some ⟨g, o, none⟩) (W * H) c) := by rw [hw1]; go_simp
  have x0 : w1.cell? ⟨w.heap.size + 1, 0, none⟩ = some (.int .i64 X) := by rw [hw1]; go_simp
  have x1 : w1.cell? ⟨w.heap.size + 1, 1, none⟩ = some (.int .i64 Y) := by rw [hw1]; go_simp
  have x2 : w1.cell? ⟨w.heap.size + 1, 2, none⟩ = some (.int .i64 p) := by rw [hw1]; go_simp
  have x3 : w1.cell? ⟨w.heap.size + 1, 3, none⟩ = some (.int .i64 q) := by rw [hw1]; go_simp
  have HC := Lib.hid (fun j hj => cell_later B1 (hp j hj))
  have HB1 := Lib.hid B1
  clear hp B1
  go_enter Try.func73, Try.ntmps73
  go_upto_region 3 with fail
  rw [← hw1]
  clear hw1
  go_wp2_with fail
  go_loopw [5, 6] (fun n y wr => ∃ k N : Nat, Y ≤ k ∧ k ≤ Y + q ∧ y = .int .i64 k ∧ n = .int .i64 N ∧ N ≤ 16000000 ∧ Hid (N = inkB z W X Y p (k - Y)) ∧ Below w1.heap.size w1 wr) (fun _ y _ => Y + q - (intOf y).toNat)
  case atStart => exact ⟨Y, 0, Nat.le_refl _, by omega, rfl, rfl, by omega, Lib.hid (by simp [inkB, sumN]), Below.refl _ _⟩
  case round =>
    obtain ⟨k, N, hk1, hk2, rfl, rfl, hN1, HN, hb⟩ := hrel
    have c0 := cell_later hb q0
    have c1 := cell_later hb q1
    have c2 := cell_later hb q2
    have d0 := cell_later hb x0
    have d1 := cell_later hb x1
    have d2 := cell_later hb x2
    have d3 := cell_later hb x3
    by_cases hlt : k < Y + q
    · obtain ⟨wo, rfl⟩ : ∃ wo : World, wo = wr := ⟨_, rfl⟩
      have hNb := inkB_le z W X Y p (k - Y)
      have hNc := Nat.mul_le_mul (show k - Y ≤ 3999 by omega) (show p ≤ 4000 by omega)
      rw [← HN.out] at hNb
      have hN2 : N ≤ 15996000 := by omega
      have hd : decide ((k : Int) < (Y : Int) + (q : Int)) = true := by simp; omega
      clear hNb hNc
      go_wp2_with fail
      go_loopw [5, 7] (fun n x wr => ∃ i M : Nat, X ≤ i ∧ i ≤ X + p ∧ x = .int .i64 i ∧ n = .int .i64 M ∧ M ≤ N + (i - X) ∧ Hid (M = N + ink1 z W X k (i - X)) ∧ Below w1.heap.size w1 wr) (fun _ x _ => X + p - (intOf x).toNat)
      case atStart => exact ⟨X, N, Nat.le_refl _, by omega, rfl, rfl, by omega, Lib.hid (by simp [ink1, sumN]), hb⟩
      case round =>
        obtain ⟨i, M, hi1, hi2, rfl, rfl, hM1, HM, hbr⟩ := hrel
        clear c0 c1 c2 d0 d1 d2 d3
        have c0 := cell_later hbr q0
        have c1 := cell_later hbr q1
        have c2 := cell_later hbr q2
        have d0 := cell_later hbr x0
        have d1 := cell_later hbr x1
        have d2 := cell_later hbr x2
        have d3 := cell_later hbr x3
        have HBR := Lib.hid hbr
        clear hbr
        have l0 := World.block_lt_of_cell? _ _ c0
        have l1 := World.block_lt_of_cell? _ _ d0
        simp only at l0 l1
        by_cases hlti : i < X + p
        · have hfit := row_fits (show k < H by omega) (show i + 1 ≤ W by omega)
          obtain ⟨t, ht⟩ : ∃ t, t = z (k * W + i) := ⟨_, rfl⟩
          have HA := Lib.hid (at_in W H g o c i k t wr (by omega) (by omega) (by omega) (by omega) (by rw [ht]; exact cell_later HBR.out (HC.out _ (by omega))))
          have hst := Lib.hid (ink1_step z W X k i hi1)
          have HT := Lib.hid ht
          clear hfit ht
          cases t
          · go_wp2_with (go_at_call 44; refine HA.out.mono ?_; rintro e wq ⟨rfl, hbq⟩)
            go_roundw
            case rel =>
             exact ⟨i + 1, M, by omega, by omega, by go_num, rfl, by omega, Lib.hid (by rw [hst.out, ← HT.out, HM.out]; simp), HBR.out.trans (hbq.mono HBR.out.size)⟩
            case measure => simp [intOf]; omega
          · go_wp2_with (go_at_call 44; refine HA.out.mono ?_; rintro e wq ⟨rfl, hbq⟩)
            go_roundw
            case rel => exact ⟨i + 1, M + 1, by omega, by omega, by go_num, by go_num, by omega, Lib.hid (by rw [hst.out, ← HT.out, HM.out]; simp; omega), HBR.out.trans (hbq.mono HBR.out.size)⟩
            case measure => simp [intOf]; omega
        · have hst := Lib.hid (inkB_step z W X Y p k hk1)
          have hie := Lib.hid (show i - X = p by omega)
          go_wp2_with fail
          go_roundw
          case rel => exact ⟨k + 1, M, by omega, by omega, by go_num, rfl, by omega, Lib.hid (by rw [hst.out, ← HN.out, HM.out, hie.out]), HBR.out⟩
          case measure => simp [intOf]; omega
    · have hke := Lib.hid (show k - Y = q by omega)
      have HB := Lib.hid hb
      clear hb
      go_wp2_with fail
      go_ret
      exact ⟨ret_int (by rw [HN.out, hke.out]), below_step HB1.out HB.out⟩

end Go.Proofs.Ytejhmobpepllcaa

namespace Go.Proofs.Ytejhmobpepllcaa
open Go.RowKit
set_option linter.unusedSimpArgs false
set_option linter.unusedVariables false

theorem ink_badPage (a b X Y bw bh : Int) (p : Option Addr) (n c : Nat) (w : World) (h : pageErr a b n ≠ 0) :
    Calls Try.prog 72 #[.agg #[.int .i64 a, .int .i64 b, .slice p n c], .agg #[.int .i64 X, .int .i64 Y, .int .i64 bw, .int .i64 bh]] w fun e w' => e = .returned (.tuple #[.int .i64 0, .int .i64 (pageErr a b n)]) ∧ Below w.heap.size w w' := by
  have h' : (pageErr a b n != 0) = true := by simpa using h
  clear h
  go_enter Try.func72, Try.ntmps72
  go_wp2_with ((go_at_call 16; refine (checkBits_any _ _ _ _ _ _).mono ?_; rintro e w' ⟨rfl, rfl⟩))
  go_ret2
  exact ⟨rfl, below_alloc (below_alloc (new_below _ _) _) _⟩

set_option maxRecDepth 100000 in
theorem ink_badBox (W H : Nat) (X Y bw bh : Int) (p : Option Addr) (n c : Nat) (w : World) (h : pageErr W H n = 0) (hs : sizeErr W H = 0) (hb : ¬ InP X Y bw bh W H) :
    Calls Try.prog 72 #[.agg #[.int .i64 W, .int .i64 H, .slice p n c], .agg #[.int .i64 X, .int .i64 Y, .int .i64 bw, .int .i64 bh]] w fun e w' => e = .returned (.tuple #[.int .i64 0, .int .i64 13]) ∧ Below w.heap.size w w' := by
  have hz := (sizeErr_zero hs).1
  have HB := Lib.hid hb
  clear hb hs
  go_enter Try.func72, Try.ntmps72
  go_wp2_with (first | (go_at_call 16; refine (checkBits_any _ _ _ _ _ _).mono ?_; rintro e w' ⟨rfl, rfl⟩) | (go_at_call 105; refine (checkBox_no X Y bw bh W H _ (by omega) (by omega) HB.out).mono ?_; rintro e w' ⟨rfl, rfl⟩))
  go_ret2
  exact ⟨rfl, below_alloc (below_alloc (below_alloc (new_below _ _) _) _) _⟩

set_option maxHeartbeats 1000000 in
set_option maxRecDepth 100000 in
theorem ink_ok (W H X Y p q g o c : Nat) (z : Nat → Bool) (w : World) (hs : sizeErr W H = 0) (hx : X + p ≤ W) (hy : Y + q ≤ H) (hb1 : 1 ≤ p) (hb2 : 1 ≤ q)
    (hp : ∀ j, j < W * H → w.cell? ⟨g, o + j, none⟩ = some (.bool (z j))) :
    Calls Try.prog 72 #[.agg #[.int .i64 W, .int .i64 H, .slice (some ⟨g, o, none⟩) (W * H) c], .agg #[.int .i64 X, .int .i64 Y, .int .i64 p, .int .i64 q]] w fun e w' => e = .returned (.tuple #[.int .i64 ((inkB z W X Y p q : Nat) : Int), .int .i64 0]) ∧ Below w.heap.size w w' := by
  obtain ⟨hz, z0, z1⟩ := sizeErr_zero hs
  have hpe : pageErr W H (W * H) = 0 := by unfold pageErr; rw [if_pos hs, if_pos (by simp [Int.natCast_mul])]
  have hin : InP (X : Int) (Y : Int) (p : Int) (q : Int) (W : Int) (H : Int) := ⟨⟨by omega, by omega⟩, ⟨by omega, by omega⟩, ⟨by omega, by omega⟩, ⟨by omega, by omega⟩⟩
  obtain ⟨w1, hw1⟩ : ∃ w1, w1 = (((w.alloc (.cells #[.int .i64 W, .int .i64 H, .slice (some ⟨g, o, none⟩) (W * H) c] 24)).alloc (.cells #[.int .i64 X, .int .i64 Y, .int .i64 p, .int .i64 q] 29)).alloc (.cells #[.int .i64 W, .int .i64 H, .slice (some ⟨g, o, none⟩) (W * H) c] 24)).alloc (.cells #[.int .i64 X, .int .i64 Y, .int .i64 p, .int .i64 q] 29) := ⟨_, rfl⟩
  have B1 : Below w.heap.size w w1 := by rw [hw1]; exact below_alloc (below_alloc (below_alloc (new_below _ _) _) _) _
  have q0 : w1.cell? ⟨w.heap.size, 0, none⟩ = some (.int .i64 W) := by rw [hw1]; go_simp
  have q1 : w1.cell? ⟨w.heap.size, 1, none⟩ = some (.int .i64 H) := by rw [hw1]; go_simp
  have q2 : w1.cell? ⟨w.heap.size, 2, none⟩ = some (.slice (some ⟨g, o, none⟩) (W * H) c) := by rw [hw1]; go_simp
  have x0 : w1.cell? ⟨w.heap.size + 1, 0, none⟩ = some (.int .i64 X) := by rw [hw1]; go_simp
  have x1 : w1.cell? ⟨w.heap.size + 1, 1, none⟩ = some (.int .i64 Y) := by rw [hw1]; go_simp
  have x2 : w1.cell? ⟨w.heap.size + 1, 2, none⟩ = some (.int .i64 p) := by rw [hw1]; go_simp
  have x3 : w1.cell? ⟨w.heap.size + 1, 3, none⟩ = some (.int .i64 q) := by rw [hw1]; go_simp
  have HC := Lib.hid (fun j hj => cell_later B1 (hp j hj))
  have HB1 := Lib.hid B1
  have HIN := Lib.hid hin
  have hz' : ((1 : Int) ≤ W ∧ (W : Int) ≤ 4000) ∧ (1 : Int) ≤ H ∧ (H : Int) ≤ 4000 := ⟨⟨hz.1, hz.2.1⟩, hz.2.2⟩
  clear hp B1 hin z0 z1 hs
  go_enter Try.func72, Try.ntmps72
  go_upto_region 9 with (first | (go_at_call 16; refine (checkBits_any _ _ _ _ _ _).mono ?_; rintro e w' ⟨rfl, rfl⟩) | (go_at_call 105; refine (checkBox_yes X Y p q W H _ hz'.1 hz'.2 HIN.out).mono ?_; rintro e w' ⟨rfl, rfl⟩))
  rw [← hw1]
  clear hw1 hpe
  go_wp2_with fail
  go_loop [8, 9] (fun n y => ∃ k N : Nat, Y ≤ k ∧ k ≤ Y + q ∧ y = .int .i64 k ∧ n = .int .i64 N ∧ N ≤ 16000000 ∧ Hid (N = inkB z W X Y p (k - Y))) (fun _ y => Y + q - (intOf y).toNat)
  case atStart => exact ⟨Y, 0, Nat.le_refl _, by omega, rfl, rfl, by omega, Lib.hid (by simp [inkB, sumN])⟩
  case round =>
    obtain ⟨k, N, hk1, hk2, rfl, rfl, hN1, HN⟩ := hrel
    by_cases hlt : k < Y + q
    · have hNb := inkB_le z W X Y p (k - Y)
      have hNc := Nat.mul_le_mul (show k - Y ≤ 3999 by omega) (show p ≤ 4000 by omega)
      rw [← HN.out] at hNb
      have hN2 : N ≤ 15996000 := by omega
      have hd : decide ((k : Int) < (Y : Int) + (q : Int)) = true := by simp; omega
      clear hNb hNc
      go_wp2_with fail
      go_loop [8, 10] (fun n x => ∃ i M : Nat, X ≤ i ∧ i ≤ X + p ∧ x = .int .i64 i ∧ n = .int .i64 M ∧ M ≤ N + (i - X) ∧ Hid (M = N + ink1 z W X k (i - X))) (fun _ x => X + p - (intOf x).toNat)
      case atStart => exact ⟨X, N, Nat.le_refl _, by omega, rfl, rfl, by omega, Lib.hid (by simp [ink1, sumN])⟩
      case round =>
        obtain ⟨i, M, hi1, hi2, rfl, rfl, hM1, HM⟩ := hrel
        by_cases hlti : i < X + p
        · have hfit := row_fits (show k < H by omega) (show i + 1 ≤ W by omega)
          have hpx := HC.out (k * W + i) (by omega)
          obtain ⟨t, ht⟩ : ∃ t, t = z (k * W + i) := ⟨_, rfl⟩
          rw [← ht] at hpx
          have hst := Lib.hid (ink1_step z W X k i hi1)
          have HT := Lib.hid ht
          have v0 : (0 : Int) ≤ (k : Int) * (W : Int) := Int.mul_nonneg (by omega) (by omega)
          have v1 : (k : Int) * (W : Int) + (i : Int) < (W : Int) * (H : Int) := by rw [← Int.natCast_mul, ← Int.natCast_mul]; omega
          have v2 : (k : Int) * (W : Int) + (i : Int) < ((W * H : Nat) : Int) := by rw [← Int.natCast_mul]; omega
          have v3 : (W : Int) * (H : Int) ≤ 16000000 := by
            have := Nat.mul_le_mul (show W ≤ 4000 by omega) (show H ≤ 4000 by omega)
            rw [← Int.natCast_mul]; omega
          clear hfit ht
          cases t
          · go_wp2_with fail
            go_round
            case rel => exact ⟨i + 1, M, by omega, by omega, by go_num, rfl, by omega, Lib.hid (by rw [hst.out, ← HT.out, HM.out]; simp)⟩
            case measure => simp [intOf]; omega
          · go_wp2_with fail
            go_round
            case rel => exact ⟨i + 1, M + 1, by omega, by omega, by go_num, by go_num, by omega, Lib.hid (by rw [hst.out, ← HT.out, HM.out]; simp; omega)⟩
            case measure => simp [intOf]; omega
        · have hst := Lib.hid (inkB_step z W X Y p k hk1)
          have hie := Lib.hid (show i - X = p by omega)
          go_wp2_with fail
          go_round
          case rel => exact ⟨k + 1, M, by omega, by omega, by go_num, rfl, by omega, Lib.hid (by rw [hst.out, ← HN.out, HM.out, hie.out])⟩
          case measure => simp [intOf]; omega
    · have hke := Lib.hid (show k - Y = q by omega)
      go_wp2_with fail
      go_ret2
      exact ⟨by show Ending.returned (.tuple #[.int .i64 (N : Int), .int .i64 0]) = _; rw [HN.out, hke.out], HB1.out⟩

/-- What Ink tells: nothing with an error, else the ink of the box. -/
def InkIs (a b : Int) (n : Nat) (X Y bw bh : Int) (z : Nat → Bool) (k : Int) : Prop :=
  (cutErr a b n X Y bw bh ≠ 0 ∧ k = 0) ∨ (cutErr a b n X Y bw bh = 0 ∧ k = ((inkB z a.toNat X.toNat Y.toNat bw.toNat bh.toNat : Nat) : Int))

theorem ink_any (a b X Y bw bh : Int) (s : Option Addr) (n c : Nat) (z : Nat → Bool) (w : World) (hs : IsBools w s n c z) :
    Calls Try.prog 72 #[.agg #[.int .i64 a, .int .i64 b, .slice s n c], .agg #[.int .i64 X, .int .i64 Y, .int .i64 bw, .int .i64 bh]] w fun e w' =>
      ∃ k, e = .returned (.tuple #[.int .i64 k, .int .i64 (cutErr a b n X Y bw bh)]) ∧ InkIs a b n X Y bw bh z k ∧ Below w.heap.size w w' := by
  by_cases h : pageErr a b n = 0
  · obtain ⟨W, H, rfl, rfl, hn, w1, w2, h1, h2, hN, he⟩ := page_nat h
    by_cases hb : InP X Y bw bh W H
    · have hE : cutErr W H n X Y bw bh = 0 := by unfold cutErr; rw [if_pos h, if_pos hb]
      obtain ⟨x, y, p, q, rfl, rfl, rfl, rfl, e1, e2, e3, e4⟩ := box_nat hb
      obtain ⟨g, o, rfl, hc⟩ := isBools_cells hs (by rw [hn]; exact Nat.mul_pos w1 h1)
      subst hn
      refine (ink_ok W H x y p q g o c z w he e1 e2 e3 e4 hc).mono ?_
      rintro e w' ⟨rfl, hbel⟩
      exact ⟨_, by rw [hE], .inr ⟨hE, by simp⟩, hbel⟩
    · have hE : cutErr W H n X Y bw bh = 13 := by unfold cutErr; rw [if_pos h, if_neg hb]
      refine (ink_badBox W H X Y bw bh s n c w h he hb).mono ?_
      rintro e w' ⟨rfl, hbel⟩
      exact ⟨0, by rw [hE], .inl ⟨by rw [hE]; decide, rfl⟩, hbel⟩
  · have hE : cutErr a b n X Y bw bh = pageErr a b n := by unfold cutErr; rw [if_neg h]
    refine (ink_badPage a b X Y bw bh s n c w h).mono ?_
    rintro e w' ⟨rfl, hbel⟩
    exact ⟨0, by rw [hE], .inl ⟨by rw [hE]; exact h, rfl⟩, hbel⟩

end Go.Proofs.Ytejhmobpepllcaa
