/-
  Contracts of extremes, halfUp, mean and Level of package clean.
-/
import Derived.Test.YtejhmobpepllcaaLevM
import Derived.Lib.MinMax
namespace Go.Proofs.Ytejhmobpepllcaa
open Go.RowKit
set_option linter.unusedSimpArgs false
set_option linter.unusedVariables false

theorem halfUp_any (a b : Int) (w : World) (ha : 0 ≤ a ∧ a ≤ 1000) (hb : 0 ≤ b ∧ b ≤ 1000) : Calls Try.prog 138 #[.int .i64 a, .int .i64 b] w fun e w' => e = .returned (.int .i64 ((a + b + 1) / 2)) ∧ w = w' := by
  obtain ⟨a1, a2⟩ := ha
  obtain ⟨b1, b2⟩ := hb
  go_enter Try.func138, Try.ntmps138
  go_wp2
  go_ret
  exact ⟨rfl, rfl⟩

/-- What extremes returns. -/
def Ends2 (c : Nat → Nat) (w : World) (e : Ending) (w' : World) : Prop := ∃ l g : Int, e = .returned (.tuple #[.int .i64 l, .int .i64 g]) ∧ LoHi c 256 l g ∧ w = w'

set_option maxHeartbeats 400000 in
set_option maxRecDepth 100000 in
theorem extremes_any (c : Nat → Nat) (g cp : Nat) (w : World) (hc : ∀ k, k < 256 → w.cell? ⟨g, 0 + k, none⟩ = some (.int .i64 ((c k : Nat) : Int))) :
    Calls Try.prog 137 #[.slice (some ⟨g, 0, none⟩) 256 cp] w (Ends2 c w) := by
  have HC := Lib.hid hc
  clear hc
  go_enter Try.func137, Try.ntmps137
  go_wp2_with fail
  go_loop [2, 3, 10] (fun l h i => ∃ (k : Nat) (lv hv : Int), k ≤ 256 ∧ i = .int .i64 k ∧ l = .int .i64 lv ∧ h = .int .i64 hv ∧ Hid (LoHi c k lv hv)) (fun _ _ i => 256 - (intOf i).toNat)
  case atStart => exact ⟨0, 256, 0, by omega, rfl, rfl, rfl, Lib.hid (.inl ⟨rfl, rfl, fun u hu => by omega⟩)⟩
  case round =>
    obtain ⟨k, lv, hv, hk, rfl, rfl, rfl, hr⟩ := hrel
    by_cases hlt : k < 256
    · have hck := HC.out k hlt
      rw [Nat.zero_add] at hck
      have hb := hr.out.bounds hk
      obtain ⟨b1, b2, b3, b4⟩ := hb
      by_cases hz : c k = 0
      · have HN := Lib.hid (hr.out.miss hz)
        rw [hz] at hck
        have HZ := Lib.hid hz
        clear hz
        go_wp2_with fail
        go_round
        case rel => exact ⟨k + 1, lv, hv, by omega, by go_num, rfl, rfl, HN⟩
        case measure => simp [intOf]; omega
      · have HN := Lib.hid (hr.out.hit hlt (by omega))
        have hp : 0 < c k := by omega
        obtain ⟨q, hq⟩ : ∃ q, q = c k := ⟨_, rfl⟩
        rw [← hq] at hck hp
        obtain ⟨m, hm⟩ : ∃ m, min lv (k : Int) = m := ⟨_, rfl⟩
        rw [hm] at HN
        have hmb : 0 ≤ m ∧ m ≤ 256 := by omega
        clear hz hq
        go_wp2_with fail
        go_round
        case rel => exact ⟨k + 1, m, k, by omega, by go_num, rfl, rfl, HN⟩
        case measure => simp [intOf]; omega
    · obtain rfl : k = 256 := by omega
      go_wp2_with fail
      go_ret2
      exact ⟨lv, hv, rfl, hr.out, rfl⟩

/-- What mean returns: the mean of a range, if there is one. -/
def meanR (z : Nat → Int) (a b : Int) (n : Nat) : Int := if cntIn z a b n = 0 then 0 else meanIn z a b n
def meanOk (z : Nat → Int) (a b : Int) (n : Nat) : Bool := decide (cntIn z a b n ≠ 0)
set_option maxRecDepth 100000 in
theorem mean_any (z : Nat → Int) (n g cp a b : Nat) (w : World) (hz : ∀ j, 0 ≤ z j ∧ z j ≤ 255) (hn : n ≤ 1048576) (hab : a ≤ b) (hb : b ≤ 256)
    (hc : ∀ k, k < 256 → w.cell? ⟨g, 0 + k, none⟩ = some (.int .i64 ((histN z n k : Nat) : Int))) :
    Calls Try.prog 139 #[.slice (some ⟨g, 0, none⟩) 256 cp, .int .i64 a, .int .i64 b] w fun e w' =>
      e = .returned (.tuple #[.int .i64 (meanR z a b n), .bool (meanOk z a b n)]) ∧ w = w' := by
  have HC := Lib.hid hc
  have HZ := Lib.hid hz
  clear hc hz
  go_enter Try.func139, Try.ntmps139
  go_wp2_with fail
  go_loop [8, 9, 10] (fun s m i => ∃ (k : Nat) (sv mv : Int), a ≤ k ∧ k ≤ b ∧ i = .int .i64 k ∧ s = .int .i64 sv ∧ m = .int .i64 mv ∧ 0 ≤ sv ∧ sv ≤ 300000000 ∧ 0 ≤ mv ∧ mv ≤ 1048576 ∧ Hid (sv = sumIn z a k n ∧ mv = cntIn z a k n)) (fun _ _ i => b - (intOf i).toNat)
  case atStart => exact ⟨a, 0, 0, Nat.le_refl _, hab, rfl, rfl, rfl, by omega, by omega, by omega, by omega, Lib.hid ⟨(sumIn_empty z a n).symm, (cntIn_empty z a n).symm⟩⟩
  case round =>
    obtain ⟨k, sv, mv, hk1, hk2, rfl, rfl, rfl, s0, s1, m0, m1, hr⟩ := hrel
    by_cases hlt : k < b
    · have hck := HC.out k (by omega)
      rw [Nat.zero_add] at hck
      have e1 := sumIn_add z (a := a) (b := k) (c := (k : Int) + 1) (by omega) (by omega) n
      have e2 := cntIn_add z (a := a) (b := k) (c := (k : Int) + 1) (by omega) (by omega) n
      rw [sumIn_hist] at e1
      rw [cntIn_hist] at e2
      have f1 := cntIn_bounds z a ((k : Int) + 1) n
      have f2 := sumIn_bounds z HZ.out a ((k : Int) + 1) n
      obtain ⟨q, hq⟩ : ∃ q, q = histN z n k := ⟨_, rfl⟩
      rw [← hq] at hck e1 e2
      have hq1 : (q : Int) ≤ 1048576 := by have := histN_le z n k; omega
      have p0 : (0 : Int) ≤ (k : Int) * (q : Int) := Int.mul_nonneg (by omega) (by omega)
      have p1 : (k : Int) * (q : Int) ≤ 255 * 1048576 := Int.mul_le_mul (by omega) hq1 (by omega) (by omega)
      have HN := Lib.hid (show sv + (k : Int) * (q : Int) = sumIn z a ((k + 1 : Nat) : Int) n ∧ mv + (q : Int) = cntIn z a ((k + 1 : Nat) : Int) n from ⟨by rw [hr.out.1]; exact e1.symm, by rw [hr.out.2]; exact e2.symm⟩)
      have r1 : sv + (k : Int) * (q : Int) ≤ 300000000 := by have := hr.out.1; omega
      have r2 : mv + (q : Int) ≤ 1048576 := by have := hr.out.2; omega
      clear hq e1 e2 f1 f2
      go_wp2_with fail
      go_round
      case rel => exact ⟨k + 1, _, _, by omega, by omega, by go_num, rfl, rfl, by omega, r1, by omega, r2, HN⟩
      case measure => simp [intOf]; omega
    · obtain rfl : k = b := by omega
      by_cases hz : mv = 0
      · have e : cntIn z a k n = 0 := by rw [← hr.out.2, hz]
        have E := Lib.hid e
        subst hz
        clear e
        go_wp2_with fail
        go_ret2
        exact ⟨by unfold meanR meanOk; rw [if_pos E.out, decide_eq_false (fun h => h E.out)]; rfl, rfl⟩
      · have hm1 : 1 ≤ mv := by omega
        have E := Lib.hid (show cntIn z a k n ≠ 0 by rw [← hr.out.2]; exact hz)
        have hz' : (mv == 0) = false := by simpa using hz
        clear hz
        go_wp2_with fail
        go_ret2
        refine ⟨?_, rfl⟩
        unfold meanR meanOk
        rw [if_neg E.out, decide_eq_true E.out, meanIn, ← hr.out.1, ← hr.out.2]
        rfl

end Go.Proofs.Ytejhmobpepllcaa
