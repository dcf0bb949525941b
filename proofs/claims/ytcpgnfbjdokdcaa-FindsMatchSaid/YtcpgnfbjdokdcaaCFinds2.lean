/-
  What finds_holds leans on: contracts of the functions that it calls.
-/
import Derived.Test.YtcpgnfbjdokdcaaRows
import Derived.WalkKit
import Derived.WalkSpells
import Derived.WalkLawsBesides
import Derived.Lib.Hide
import Derived.Deep.RegionHeld3
import Derived.Shelf.Abstract
import Derived.Deep.AppendLies
import Derived.Deep.DrawnRows
import Derived.Deep.RegionLaw
import Derived.Deep.QuietTactic
import Derived.BigQuiet
import Derived.ProofKit
import Derived.OpenShut
import Derived.ShutString
import Derived.ChangeOld
import Derived.Lib.SmallJoins
import Derived.Deep.Grids
import Derived.Deep.DeepCutAuto
import Derived.Lib.MinMax
import Derived.Deep.CutRange
import Derived.Laws.EntriesVeiled
import Derived.StillTailTactics
import Derived.Test.YtcpgnfbjdokdcaaCFinds1
namespace Go.Proofs.Ytcpgnfbjdokdcaa
set_option linter.unusedSimpArgs false
set_option linter.unusedVariables false

/-- The sum of n values from k on. -/
def rowSum (P : Nat → Int) (k : Nat) : Nat → Int
  | 0 => 0
  | n + 1 => rowSum P k n + P (k + n)

/-- The sum of a rectangle of a page that is W wide: from (x, y) on, nx wide and ny high. -/
def rectSum (P : Nat → Int) (W y x nx : Nat) : Nat → Int
  | 0 => 0
  | n + 1 => rectSum P W y x nx n + rowSum P ((y + n) * W + x) nx

end Go.Proofs.Ytcpgnfbjdokdcaa
namespace Go.Proofs.Ytcpgnfbjdokdcaa
open Go.RowKit
set_option linter.unusedSimpArgs false
set_option linter.unusedVariables false

/-- A list of numbers, as values. -/
def numsOf (f : Nat → Nat) (n : Nat) : List Value := (List.range n).map fun k => Value.int .i64 ((f k : Nat) : Int)
theorem numsOf_succ (f : Nat → Nat) (n : Nat) : numsOf f (n + 1) = numsOf f n ++ [.int .i64 ((f n : Nat) : Int)] := by simp [numsOf, List.range_succ]
theorem numsOf_get (f : Nat → Nat) (n k : Nat) (h : k < n) : (numsOf f n)[k]? = some (.int .i64 ((f k : Nat) : Int)) := by simp [numsOf, List.getElem?_range h]

set_option maxHeartbeats 1000000 in
set_option maxRecDepth 100000 in
theorem rowsOf_any (W H g o c : Nat) (z : Nat → Bool) (w : World) (hW : 1 ≤ W ∧ W ≤ 4000) (hH : 1 ≤ H ∧ H ≤ 4000)
    (hp : ∀ j, j < W * H → w.cell? ⟨g, o + j, none⟩ = some (.bool (z j))) :
    Calls Try.prog 66 #[.agg #[.int .i64 W, .int .i64 H, .slice (some ⟨g, o, none⟩) (W * H) c]] w fun e w' => ∃ v, e = .returned v ∧ w'.ownsRow w.heap.size 3 1 v H (numsOf (fun y => inkB z W 0 y W 1) H) ∧ Below w.heap.size w w' := by
  obtain ⟨i0, hi, hz0, hz1, hz2⟩ := info_parts info_int
  obtain ⟨w1, hw1⟩ : ∃ w1, w1 = w.alloc (.cells #[.int .i64 W, .int .i64 H, .slice (some ⟨g, o, none⟩) (W * H) c] 24) := ⟨_, rfl⟩
  have B1 : Below w.heap.size w w1 := by rw [hw1]; exact new_below _ _
  have q0 : w1.cell? ⟨w.heap.size, 0, none⟩ = some (.int .i64 W) := by rw [hw1]; go_simp
  have q1 : w1.cell? ⟨w.heap.size, 1, none⟩ = some (.int .i64 H) := by rw [hw1]; go_simp
  have q2 : w1.cell? ⟨w.heap.size, 2, none⟩ = some (.slice (some ⟨g, o, none⟩) (W * H) c) := by rw [hw1]; go_simp
  have HC := Lib.hid (fun j hj => cell_later B1 (hp j hj))
  have HB1 := Lib.hid B1
  have hsz : w.heap.size ≤ w1.heap.size := B1.size
  clear hp B1
  go_enter Try.func66, Try.ntmps66
  go_upto_region 3 with fail
  rw [← hw1]
  clear hw1
  go_wp2_with fail
  go_loopw [3, 7] (fun v i wr => ∃ y : Nat, y ≤ H ∧ i = .int .i64 y ∧ wr.ownsRow w1.heap.size 3 1 v y (numsOf (fun y => inkB z W 0 y W 1) y) ∧ Below w1.heap.size w1 wr) (fun _ i _ => H - (intOf i).toNat)
  case atStart => exact ⟨0, Nat.zero_le _, rfl, by simpa [numsOf] using World.ownsRow_nil _ _ _ _, Below.refl _ _⟩
  case round =>
    obtain ⟨y, hy, rfl, hown, hb⟩ := hrel
    have c0 := cell_later hb q0
    have c1 := cell_later hb q1
    have c2 := cell_later hb q2
    have HO := Lib.hid hown
    have HB := Lib.hid hb
    clear hown hb
    by_cases hlt : y < H
    · have HI := Lib.hid (inkOf_any W H 0 y W 1 g o c z wr hW.2 hH.2 (by omega) (by omega) (fun j hj => cell_later HB.out (HC.out j hj)))
      obtain ⟨K, hK⟩ : ∃ K, K = inkB z W 0 y W 1 := ⟨_, rfl⟩
      rw [← hK] at HI
      have HK := Lib.hid hK
      clear hK
      go_wp2_with (first | (go_at_call 70; refine HI.out.mono ?_; rintro e wq ⟨rfl, hbq⟩) | (at_builtin; refine wpList_append_own _ rfl _ _ 69 rfl w1.heap.size 3 i0 (.int .i64 0) 1 8 Try.underlying69 hi hz0 hz1 hz2 rfl (by decide) _ _ _ rfl ((below_owns HO.out hbq).alloc _) ⟨wq.heap.size, 0, none⟩ 1 1 [.int .i64 (K : Int)] rfl rfl ?c1 ?c2 ?c3 ?c4 ?c5 ?_))
      case c1 => exact cell_one_new _ _ _
      case c2 => intro u hu; simp at hu; subst hu; rfl
      case c3 => unfold maxLen; omega
      case c4 => omega
      case c5 => have h1 := HB.out.size; have h2 := hbq.size; simp; omega
      · intro v' w5 hown5 hgr5 _
        have hB2 := HB.out.trans (hbq.mono HB.out.size)
        have hb5 : Below w1.heap.size w1 w5 := (hB2.alloc hB2.size _).grown hgr5 (by have h1 := hB2.size; simp; omega) (fun k hk => (HO.out.lt k hk).1)
        have H5 := Lib.hid hown5
        have B5 := Lib.hid hb5
        clear hgr5 hown5 hb5 hB2 hbq
        go_wp2_with fail
        go_roundw
        case rel => exact ⟨y + 1, by omega, by go_num, by rw [numsOf_succ, ← HK.out]; exact H5.out, B5.out⟩
        case measure => simp [intOf]; omega
    · obtain rfl : y = H := by omega
      go_wp2_with fail
      go_ret
      exact ⟨_, rfl, owns_base HO.out hsz, below_step HB1.out HB.out⟩

set_option maxHeartbeats 1000000 in
set_option maxRecDepth 100000 in
theorem columnsOf_any (W H g o c : Nat) (z : Nat → Bool) (w : World) (hW : 1 ≤ W ∧ W ≤ 4000) (hH : 1 ≤ H ∧ H ≤ 4000)
    (hp : ∀ j, j < W * H → w.cell? ⟨g, o + j, none⟩ = some (.bool (z j))) :
    Calls Try.prog 67 #[.agg #[.int .i64 W, .int .i64 H, .slice (some ⟨g, o, none⟩) (W * H) c]] w fun e w' => ∃ v, e = .returned v ∧ w'.ownsRow w.heap.size 3 1 v W (numsOf (fun x => inkB z W x 0 1 H) W) ∧ Below w.heap.size w w' := by
  obtain ⟨i0, hi, hz0, hz1, hz2⟩ := info_parts info_int
  obtain ⟨w1, hw1⟩ : ∃ w1, w1 = w.alloc (.cells #[.int .i64 W, .int .i64 H, .slice (some ⟨g, o, none⟩) (W * H) c] 24) := ⟨_, rfl⟩
  have B1 : Below w.heap.size w w1 := by rw [hw1]; exact new_below _ _
  have q0 : w1.cell? ⟨w.heap.size, 0, none⟩ = some (.int .i64 W) := by rw [hw1]; go_simp
  have q1 : w1.cell? ⟨w.heap.size, 1, none⟩ = some (.int .i64 H) := by rw [hw1]; go_simp
  have q2 : w1.cell? ⟨w.heap.size, 2, none⟩ = some (.slice (some ⟨g, o, none⟩) (W * H) c) := by rw [hw1]; go_simp
  have HC := Lib.hid (fun j hj => cell_later B1 (hp j hj))
  have HB1 := Lib.hid B1
  have hsz : w.heap.size ≤ w1.heap.size := B1.size
  clear hp B1
  go_enter Try.func67, Try.ntmps67
  go_upto_region 3 with fail
  rw [← hw1]
  clear hw1
  go_wp2_with fail
  go_loopw [3, 7] (fun v i wr => ∃ y : Nat, y ≤ W ∧ i = .int .i64 y ∧ wr.ownsRow w1.heap.size 3 1 v y (numsOf (fun x => inkB z W x 0 1 H) y) ∧ Below w1.heap.size w1 wr) (fun _ i _ => W - (intOf i).toNat)
  case atStart => exact ⟨0, Nat.zero_le _, rfl, by simpa [numsOf] using World.ownsRow_nil _ _ _ _, Below.refl _ _⟩
  case round =>
    obtain ⟨y, hy, rfl, hown, hb⟩ := hrel
    have c0 := cell_later hb q0
    have c1 := cell_later hb q1
    have c2 := cell_later hb q2
    have HO := Lib.hid hown
    have HB := Lib.hid hb
    clear hown hb
    by_cases hlt : y < W
    · have HI := Lib.hid (inkOf_any W H y 0 1 H g o c z wr hW.2 hH.2 (by omega) (by omega) (fun j hj => cell_later HB.out (HC.out j hj)))
      obtain ⟨K, hK⟩ : ∃ K, K = inkB z W y 0 1 H := ⟨_, rfl⟩
      rw [← hK] at HI
      have HK := Lib.hid hK
      clear hK
      go_wp2_with (first | (go_at_call 70; refine HI.out.mono ?_; rintro e wq ⟨rfl, hbq⟩) | (at_builtin; refine wpList_append_own _ rfl _ _ 69 rfl w1.heap.size 3 i0 (.int .i64 0) 1 8 Try.underlying69 hi hz0 hz1 hz2 rfl (by decide) _ _ _ rfl ((below_owns HO.out hbq).alloc _) ⟨wq.heap.size, 0, none⟩ 1 1 [.int .i64 (K : Int)] rfl rfl ?c1 ?c2 ?c3 ?c4 ?c5 ?_))
      case c1 => exact cell_one_new _ _ _
      case c2 => intro u hu; simp at hu; subst hu; rfl
      case c3 => unfold maxLen; omega
      case c4 => omega
      case c5 => have h1 := HB.out.size; have h2 := hbq.size; simp; omega
      · intro v' w5 hown5 hgr5 _
        have hB2 := HB.out.trans (hbq.mono HB.out.size)
        have hb5 : Below w1.heap.size w1 w5 := (hB2.alloc hB2.size _).grown hgr5 (by have h1 := hB2.size; simp; omega) (fun k hk => (HO.out.lt k hk).1)
        have H5 := Lib.hid hown5
        have B5 := Lib.hid hb5
        clear hgr5 hown5 hb5 hB2 hbq
        go_wp2_with fail
        go_roundw
        case rel => exact ⟨y + 1, by omega, by go_num, by rw [numsOf_succ, ← HK.out]; exact H5.out, B5.out⟩
        case measure => simp [intOf]; omega
    · obtain rfl : y = W := by omega
      go_wp2_with fail
      go_ret
      exact ⟨_, rfl, owns_base HO.out hsz, below_step HB1.out HB.out⟩

end Go.Proofs.Ytcpgnfbjdokdcaa

namespace Go.Proofs.Ytcpgnfbjdokdcaa
open Go.RowKit
set_option linter.unusedSimpArgs false
set_option linter.unusedVariables false

set_option maxHeartbeats 1000000 in
set_option maxRecDepth 100000 in
theorem eachInk_any (W H g o c clo : Nat) (capt : Array Value) (z : Nat → Bool) (I : Nat → Nat → World → Prop) (K : Nat → Prop) (W0 : World) (hW : 1 ≤ W ∧ W ≤ 4000) (hH : 1 ≤ H ∧ H ≤ 4000)
    (eg : ∀ (args : Array Value) (W : World), (callFunc clo args).run Try.prog W = .ok (.enter clo args) W)
    (hp : ∀ j, j < W * H → W0.cell? ⟨g, o + j, none⟩ = some (.bool (z j))) (hK : K g) (hK0 : K W0.heap.size)
    (hI0 : I 0 0 (W0.alloc (.cells #[.int .i64 W, .int .i64 H, .slice (some ⟨g, o, none⟩) (W * H) c] 24)))
    (hrow : ∀ y wx, y < H → I y W wx → I (y + 1) 0 wx)
    (hno : ∀ y x wx, x < W → y < H → z (y * W + x) = false → I y x wx → I y (x + 1) wx)
    (hyes : ∀ y x wx, x < W → y < H → z (y * W + x) = true → I y x wx → Calls Try.prog clo (#[.int .i64 x, .int .i64 y] ++ capt) wx fun e w' => e = .returned (.tuple #[]) ∧ I y (x + 1) w' ∧ ∀ b, K b → w'.heap[b]? = wx.heap[b]?) :
    Calls Try.prog 118 #[.agg #[.int .i64 W, .int .i64 H, .slice (some ⟨g, o, none⟩) (W * H) c], .func (.func clo) #[] capt] W0 fun e w' => e = .returned (.tuple #[]) ∧ I H 0 w' := by
  obtain ⟨w1, hw1⟩ : ∃ w1, w1 = W0.alloc (.cells #[.int .i64 W, .int .i64 H, .slice (some ⟨g, o, none⟩) (W * H) c] 24) := ⟨_, rfl⟩
  have B1 : Below W0.heap.size W0 w1 := by rw [hw1]; exact new_below _ _
  have q0 : w1.cell? ⟨W0.heap.size, 0, none⟩ = some (.int .i64 W) := by rw [hw1]; go_simp
  have q1 : w1.cell? ⟨W0.heap.size, 1, none⟩ = some (.int .i64 H) := by rw [hw1]; go_simp
  have q2 : w1.cell? ⟨W0.heap.size, 2, none⟩ = some (.slice (some ⟨g, o, none⟩) (W * H) c) := by rw [hw1]; go_simp
  have HC := Lib.hid (fun j hj => cell_later B1 (hp j hj))
  have hN : W * H ≤ 16000000 := Nat.mul_le_mul hW.2 hH.2
  rw [← hw1] at hI0
  have HR := Lib.hid hrow
  have HNo := Lib.hid hno
  have HY := Lib.hid hyes
  have HK := Lib.hid hK
  have HK0 := Lib.hid hK0
  clear hp B1 hrow hno hyes hK hK0
  go_enter Try.func118, Try.ntmps118
  go_upto_region 1 with fail
  rw [← hw1]
  clear hw1
  go_wp2_with fail
  go_loopw [8] (fun i wr => ∃ y : Nat, y ≤ H ∧ i = .int .i64 y ∧ I y 0 wr ∧ ∀ b, K b → wr.heap[b]? = w1.heap[b]?) (fun i _ => H - (intOf i).toNat)
  case atStart => exact ⟨0, Nat.zero_le _, rfl, hI0, fun _ _ => rfl⟩
  case round =>
    obtain ⟨y, hy, rfl, hI, hk⟩ := hrel
    have d0 := (World.cell?_of_block (a := ⟨W0.heap.size, 0, none⟩) (hk _ HK0.out)).trans q0
    have d1 := (World.cell?_of_block (a := ⟨W0.heap.size, 1, none⟩) (hk _ HK0.out)).trans q1
    have HKk := Lib.hid hk
    clear hk
    by_cases hlt : y < H
    · obtain ⟨wo, rfl⟩ : ∃ wo : World, wo = wr := ⟨_, rfl⟩
      go_wp2_with fail
      go_loopw [13] (fun i wr => ∃ x : Nat, x ≤ W ∧ i = .int .i64 x ∧ I y x wr ∧ ∀ b, K b → wr.heap[b]? = w1.heap[b]?) (fun i _ => W - (intOf i).toNat)
      case atStart => exact ⟨0, Nat.zero_le _, rfl, hI, HKk.out⟩
      case round =>
        obtain ⟨x, hx, rfl, hIx, hk⟩ := hrel
        clear d0 d1
        have d0 := (World.cell?_of_block (a := ⟨W0.heap.size, 0, none⟩) (hk _ HK0.out)).trans q0
        have d1 := (World.cell?_of_block (a := ⟨W0.heap.size, 1, none⟩) (hk _ HK0.out)).trans q1
        have d2 := (World.cell?_of_block (a := ⟨W0.heap.size, 2, none⟩) (hk _ HK0.out)).trans q2
        have HKx := Lib.hid hk
        clear hk
        by_cases hltx : x < W
        · have hfit := row_fits hlt (show x + 1 ≤ W by omega)
          have hpx := (World.cell?_of_block (a := ⟨g, o + (y * W + x), none⟩) (HKx.out _ HK.out)).trans (HC.out _ (by omega))
          have v0 : (0 : Int) ≤ (y : Int) * (W : Int) := Int.mul_nonneg (by omega) (by omega)
          have v1 : (y : Int) * (W : Int) + (x : Int) < (W : Int) * (H : Int) := by rw [← Int.natCast_mul, ← Int.natCast_mul]; omega
          have v2 : (y : Int) * (W : Int) + (x : Int) < ((W * H : Nat) : Int) := by rw [← Int.natCast_mul]; omega
          have v3 : (W : Int) * (H : Int) ≤ 16000000 := by rw [← Int.natCast_mul]; omega
          obtain ⟨t, ht⟩ : ∃ t, t = z (y * W + x) := ⟨_, rfl⟩
          rw [← ht] at hpx
          have HT := Lib.hid ht
          clear hfit ht
          cases t
          · go_wp2_with fail
            go_roundw
            case rel => exact ⟨x + 1, by omega, by go_num, HNo.out y x _ hltx hlt HT.out.symm hIx, HKx.out⟩
            case measure => simp [intOf]; omega
          · go_wp2_with (go_at_fn clo; refine (HY.out y x _ hltx hlt HT.out.symm hIx).mono ?_; rintro e w' ⟨rfl, hI', hk'⟩)
            go_roundw
            case rel => exact ⟨x + 1, by omega, by go_num, hI', fun b hb => (hk' b hb).trans (HKx.out b hb)⟩
            case measure => simp [intOf]; omega
        · obtain rfl : x = W := by omega
          go_wp2_with fail
          go_roundw
          case rel => exact ⟨y + 1, by omega, by go_num, HR.out y _ hlt hIx, HKx.out⟩
          case measure => simp [intOf]; omega
    · have hye := Lib.hid (show y = H by omega)
      go_wp2_with fail
      go_end0
      exact ⟨rfl, by have h := hI; rw [hye.out] at h; exact h⟩

end Go.Proofs.Ytcpgnfbjdokdcaa

namespace Go.Proofs.Ytcpgnfbjdokdcaa
open Go.RowKit
set_option linter.unusedSimpArgs false
set_option linter.unusedVariables false

theorem numsOf_congr {f g : Nat → Nat} {n : Nat} (h : ∀ j, j < n → f j = g j) : numsOf f n = numsOf g n := by
  unfold numsOf
  refine List.map_congr_left fun k hk => ?_
  rw [h k (by simpa using hk)]
theorem numsOf_set {f g : Nat → Nat} {n j v : Nat} (hj : j < n) (hv : g j = v) (h : ∀ i, i < n → i ≠ j → g i = f i) : (numsOf f n).set j (.int .i64 ((v : Nat) : Int)) = numsOf g n := by
  refine List.ext_getElem? fun k => ?_
  rw [List.getElem?_set]
  by_cases hk : k < n
  · rw [numsOf_get g n k hk]
    by_cases e : j = k
    · subst e; simp [numsOf, hv, hj]
    · rw [if_neg e, numsOf_get f n k hk, h k hk fun e' => e e'.symm]
  · have h1 : (numsOf g n)[k]? = none := by simp [numsOf]; omega
    have h2 : (numsOf f n)[k]? = none := by simp [numsOf]; omega
    rw [h1]
    by_cases e : j = k
    · omega
    · rw [if_neg e, h2]
theorem numsOf_length (f : Nat → Nat) (n : Nat) : (numsOf f n).length = n := by simp [numsOf]

/-- The counts of the rows while the pixel (x, y) is the next one. -/
def rowsAt (z : Nat → Bool) (W y x j : Nat) : Nat := if j < y then ink1 z W 0 j W else if j = y then ink1 z W 0 y x else 0
/-- The ink of the first y places of a column. -/
def colN (z : Nat → Bool) (W i y : Nat) : Nat := sumN (fun k => (z (k * W + i)).toNat) y
def colsAt (z : Nat → Bool) (W y x i : Nat) : Nat := if i < x then colN z W i (y + 1) else colN z W i y

theorem rowsAt_row (z : Nat → Bool) (W y j : Nat) : rowsAt z W y W j = rowsAt z W (y + 1) 0 j := by
  unfold rowsAt
  by_cases h : j < y
  · rw [if_pos h, if_pos (by omega)]
  · rw [if_neg h]
    by_cases e : j = y
    · rw [if_pos e, if_pos (by omega), e]
    · rw [if_neg e, if_neg (by omega)]
      split <;> simp [ink1, sumN]
theorem ink1_succ (z : Nat → Bool) (W y x : Nat) : ink1 z W 0 y (x + 1) = ink1 z W 0 y x + (z (y * W + x)).toNat := by simp [ink1, sumN]
theorem rowsAt_no (z : Nat → Bool) (W y x j : Nat) (h : z (y * W + x) = false) : rowsAt z W y x j = rowsAt z W y (x + 1) j := by
  unfold rowsAt
  rw [ink1_succ, h]
  simp
theorem rowsAt_end (z : Nat → Bool) (W H j : Nat) (h : j < H) : rowsAt z W H 0 j = inkB z W 0 j W 1 := by
  unfold rowsAt inkB
  rw [if_pos h]
  simp [sumN]
theorem colsAt_row (z : Nat → Bool) (W y i : Nat) (h : i < W) : colsAt z W y W i = colsAt z W (y + 1) 0 i := by
  unfold colsAt
  rw [if_pos h, if_neg (by omega)]
theorem colsAt_no (z : Nat → Bool) (W y x i : Nat) (h : z (y * W + x) = false) : colsAt z W y x i = colsAt z W y (x + 1) i := by
  unfold colsAt
  by_cases h1 : i < x
  · rw [if_pos h1, if_pos (by omega)]
  · rw [if_neg h1]
    by_cases h2 : i = x
    · rw [if_pos (by omega), colN, colN, sumN, h2, h]; rfl
    · rw [if_neg (by omega)]
theorem colsAt_end (z : Nat → Bool) (W H i : Nat) : colsAt z W H 0 i = inkB z W i 0 1 H := by
  unfold colsAt inkB colN
  rw [if_neg (by omega)]
  exact sumN_congr fun j _ => by simp [ink1, sumN]

set_option maxRecDepth 100000 in
theorem rows1_any (x y cb ab n k : Nat) (w : World) (hy : y < n) (hn : n ≤ 100000) (hk : k ≤ 1000000000) (c0 : w.cell? ⟨cb, 0, none⟩ = some (.slice (some ⟨ab, 0, none⟩) n n)) (c1 : w.cell? ⟨ab, y, none⟩ = some (.int .i64 (k : Int))) (f1 : w.frozen? ⟨ab, y, none⟩ = false) :
    Calls Try.prog 119 #[.int .i64 x, .int .i64 y, .pointer (some ⟨cb, 0, none⟩)] w fun e w' => e = .returned (.tuple #[]) ∧ w.setCell ⟨ab, y, none⟩ (.int .i64 ((k + 1 : Nat) : Int)) = w' := by
  have h0 : (y : Int) < (n : Int) := by omega
  have h1 : (0 : Int) ≤ (y : Int) := by omega
  go_enter Try.func119, Try.ntmps119
  go_wp2_with fail
  go_end0
  exact ⟨rfl, rfl⟩

set_option maxRecDepth 100000 in
theorem columns1_any (x y cb ab n k : Nat) (w : World) (hy : x < n) (hn : n ≤ 100000) (hk : k ≤ 1000000000) (c0 : w.cell? ⟨cb, 0, none⟩ = some (.slice (some ⟨ab, 0, none⟩) n n)) (c1 : w.cell? ⟨ab, x, none⟩ = some (.int .i64 (k : Int))) (f1 : w.frozen? ⟨ab, x, none⟩ = false) :
    Calls Try.prog 120 #[.int .i64 x, .int .i64 y, .pointer (some ⟨cb, 0, none⟩)] w fun e w' => e = .returned (.tuple #[]) ∧ w.setCell ⟨ab, x, none⟩ (.int .i64 ((k + 1 : Nat) : Int)) = w' := by
  have h0 : (x : Int) < (n : Int) := by omega
  have h1 : (0 : Int) ≤ (x : Int) := by omega
  go_enter Try.func120, Try.ntmps120
  go_wp2_with fail
  go_end0
  exact ⟨rfl, rfl⟩

/-- What holds between two pixels: the counts, in the row ab; what lies below is as it was; the box of the counts. -/
def CountRel (ab cb : Nat) (f : Nat → Nat) (n : Nat) (w2 wx : World) : Prop :=
  wx.ownsRow ab 3 1 (.slice (some ⟨ab, 0, none⟩) n n) n (numsOf f n) ∧ Below ab w2 wx ∧ wx.cell? ⟨cb, 0, none⟩ = some (.slice (some ⟨ab, 0, none⟩) n n)

theorem CountRel.get {ab cb n j : Nat} {f : Nat → Nat} {w2 wx : World} (h : CountRel ab cb f n w2 wx) (hj : j < n) : wx.cell? ⟨ab, j, none⟩ = some (.int .i64 ((f j : Nat) : Int)) := by
  rw [h.1.cellAt j (by omega), numsOf_get f n j hj]
theorem CountRel.store {ab cb n j : Nat} {f g : Nat → Nat} {w2 wx : World} (h : CountRel ab cb f n w2 wx) (hc : cb ≠ ab) (hj : j < n) (hg : g j = f j + 1) (ho : ∀ i, i < n → i ≠ j → g i = f i) : CountRel ab cb g n w2 (wx.setCell ⟨ab, j, none⟩ (.int .i64 ((f j + 1 : Nat) : Int))) := by
  refine ⟨?_, h.2.1.setCell (Nat.le_refl _) _, ?_⟩
  · have := (h.1.stored j (.int .i64 ((f j + 1 : Nat) : Int))).1
    rw [numsOf_set hj hg ho] at this
    exact this
  · rw [World.cell?_of_block (Below.heap_setCell _ _ _ _ (by simpa using hc))]
    exact h.2.2
theorem CountRel.same {ab cb n : Nat} {f g : Nat → Nat} {w2 wx : World} (h : CountRel ab cb f n w2 wx) (he : ∀ i, i < n → f i = g i) : CountRel ab cb g n w2 wx :=
  ⟨by rw [← numsOf_congr he]; exact h.1, h.2⟩

theorem numsOf_zero (n : Nat) : List.replicate n (Value.int .i64 0) = numsOf (fun _ => 0) n := by
  refine List.ext_getElem? fun k => ?_
  by_cases hk : k < n
  · rw [numsOf_get _ _ _ hk, List.getElem?_replicate, if_pos hk]; rfl
  · rw [List.getElem?_replicate, if_neg hk]; symm; exact List.getElem?_eq_none (by rw [numsOf_length]; omega)

set_option maxHeartbeats 1000000 in
set_option maxRecDepth 100000 in
theorem rows_ok (W H g o c : Nat) (z : Nat → Bool) (w : World) (hs : sizeErr W H = 0)
    (hp : ∀ j, j < W * H → w.cell? ⟨g, o + j, none⟩ = some (.bool (z j))) :
    Calls Try.prog 62 #[.agg #[.int .i64 W, .int .i64 H, .slice (some ⟨g, o, none⟩) (W * H) c]] w fun e w' =>
      ∃ v, e = .returned (.tuple #[v, .int .i64 0]) ∧ w'.ownsRow w.heap.size 3 1 v H (numsOf (fun y => inkB z W 0 y W 1) H) ∧ Below w.heap.size w w' := by
  obtain ⟨i0, hi, hz0, hz1, hz2⟩ := info_parts info_int
  have hmf : ∀ (fn : Fn) (first cap : Array Value) (w : World), (Instr.makeFunc fn first cap).run Try.prog w = .ok (.func fn first cap) w := fun _ _ _ _ => rfl
  obtain ⟨⟨a1, a2, a3, a4⟩, z0, z1⟩ := sizeErr_zero hs
  have hpe : pageErr W H (W * H) = 0 := by unfold pageErr; rw [if_pos hs, if_pos (by simp [Int.natCast_mul])]
  have hgw : g < w.heap.size := by
    have := World.block_lt_of_cell? _ _ (hp 0 (Nat.mul_pos (by omega) (by omega)))
    simpa using this
  have HC := Lib.hid hp
  clear hp hs z0 z1
  go_enter Try.func62, Try.ntmps62
  go_wp2_with (first | (go_at_call 13; refine (checkBits_any _ _ _ _ _ _).mono ?_; rintro e w' ⟨rfl, rfl⟩) | (at_make; refine wpList_make_full _ rfl _ _ 69 rfl (w.heap.size + 2) 3 i0 (.int .i64 0) 1 Try.underlying69 hi hz0 hz1 _ _ _ _ H rfl rfl rfl rfl (by rw [hz2]; omega) (by unfold maxLen; omega) (by simp) ?_))
  intro w1 hown1 hgrow1
  rw [toList_madeCells_one, numsOf_zero] at hown1
  have hb1 := (Below.refl (w.heap.size + 2) _).grown hgrow1 (by simp) (by simp)
  have B1 := (below_alloc (new_below w (.cells #[.int .i64 W, .int .i64 H, .slice (some ⟨g, o, none⟩) (W * H) c] 24)) (.cells #[.int .i64 W, .int .i64 H, .slice (some ⟨g, o, none⟩) (W * H) c] 24)).trans (hb1.mono (show w.heap.size ≤ w.heap.size + 2 by omega))
  have k0 : w1.cell? ⟨w.heap.size, 0, none⟩ = some (.int .i64 W) := (hb1.cell (p := ⟨w.heap.size, 0, none⟩) (by simp)).trans (by go_simp)
  have k1 : w1.cell? ⟨w.heap.size, 1, none⟩ = some (.int .i64 H) := (hb1.cell (p := ⟨w.heap.size, 1, none⟩) (by simp)).trans (by go_simp)
  have k2 : w1.cell? ⟨w.heap.size, 2, none⟩ = some (.slice (some ⟨g, o, none⟩) (W * H) c) := (hb1.cell (p := ⟨w.heap.size, 2, none⟩) (by simp)).trans (by go_simp)
  have hlt2 : w.heap.size + 2 < w1.heap.size := (hown1.lt (w.heap.size + 2) rfl).2
  obtain ⟨w2, hw2⟩ : ∃ w2, w2 = w1.alloc (.cells #[.slice (some ⟨w.heap.size + 2, 0, none⟩) H H] 69) := ⟨_, rfl⟩
  have B2 : Below w1.heap.size w1 w2 := by rw [hw2]; exact new_below _ _
  have x0 : w2.cell? ⟨w1.heap.size, 0, none⟩ = some (.slice (some ⟨w.heap.size + 2, 0, none⟩) H H) := by rw [hw2]; go_simp
  have hs2 : w2.heap.size = w1.heap.size + 1 := by rw [hw2]; simp
  have O2 := below_owns hown1 B2
  have HO2 := Lib.hid O2
  have HB12 := Lib.hid (below_step B1 B2)
  have j0 := cell_later B2 k0
  have j1 := cell_later B2 k1
  have j2 := cell_later B2 k2
  have HX := Lib.hid x0
  have HJ := Lib.hid (And.intro j0 (And.intro j1 j2))
  have l0 : w.heap.size < w1.heap.size := by omega
  clear hgrow1 hb1 hown1 O2 B1 B2 x0 j0 j1 j2
  go_wp2_with fail
  rw [← hw2]
  clear hw2 k0 k1 k2
  refine (eachInk_any W H g o c 119 #[.pointer (some ⟨w1.heap.size, 0, none⟩)] z (fun y x wx => CountRel (w.heap.size + 2) w1.heap.size (rowsAt z W y x) H w2 wx) (fun b => b ≠ w.heap.size + 2) w2 ⟨by omega, by omega⟩ ⟨by omega, by omega⟩ (Go.Proofs.enters_of Try.func119 (by kernel_rfl) rfl) (fun j hj => cell_later HB12.out (HC.out j hj)) (by omega) (by omega) ?_ ?_ ?_ ?_).mono ?_
  · refine ⟨?_, (Below.refl _ _).alloc (by omega) _, cell_later (new_below _ _) HX.out⟩
    have := below_owns HO2.out (new_below w2 (.cells #[.int .i64 W, .int .i64 H, .slice (some ⟨g, o, none⟩) (W * H) c] 24))
    rw [numsOf_congr (f := fun _ => 0) (g := rowsAt z W 0 0) (fun j _ => by unfold rowsAt; rw [if_neg (by omega)]; split <;> simp [ink1, sumN])] at this
    exact this
  · exact fun y wx hy h => h.same fun i _ => rowsAt_row z W y i
  · exact fun y x wx hx hy hz h => h.same fun i _ => rowsAt_no z W y x i hz
  · intro y x wx hx hy hz h
    have hb9 : rowsAt z W y x y ≤ 1000000000 := by
      unfold rowsAt
      rw [if_neg (by omega), if_pos rfl]
      have := ink1_le z W 0 y x
      omega
    refine (rows1_any x y w1.heap.size (w.heap.size + 2) H _ wx hy (by omega) hb9 h.2.2 (h.get hy) (h.1.frozenAt y)).mono ?_
    rintro e w' ⟨rfl, rfl⟩
    refine ⟨rfl, h.store (by omega) hy ?_ ?_, fun b hb => Below.heap_setCell _ _ _ _ hb⟩
    · unfold rowsAt
      rw [if_neg (by omega), if_pos rfl, if_neg (by omega), if_pos rfl, ink1_succ, hz]; rfl
    · intro i hi hne
      unfold rowsAt
      by_cases e : i < y
      · rw [if_pos e, if_pos e]
      · rw [if_neg e, if_neg e, if_neg hne, if_neg hne]
  · rintro e w5 ⟨rfl, h5⟩
    have hc5 := h5.2.2
    have HO5 := Lib.hid (h5.same (g := fun y => inkB z W 0 y W 1) fun i hi => rowsAt_end z W H i hi)
    clear h5
    go_wp2_with fail
    go_ret2
    exact ⟨_, rfl, owns_base HO5.out.1 (by omega), HB12.out.trans (HO5.out.2.1.mono (by omega))⟩

end Go.Proofs.Ytcpgnfbjdokdcaa

namespace Go.Proofs.Ytcpgnfbjdokdcaa
open Go.RowKit
set_option linter.unusedSimpArgs false
set_option linter.unusedVariables false

set_option maxHeartbeats 1000000 in
set_option maxRecDepth 100000 in
theorem columns_ok (W H g o c : Nat) (z : Nat → Bool) (w : World) (hs : sizeErr W H = 0)
    (hp : ∀ j, j < W * H → w.cell? ⟨g, o + j, none⟩ = some (.bool (z j))) :
    Calls Try.prog 63 #[.agg #[.int .i64 W, .int .i64 H, .slice (some ⟨g, o, none⟩) (W * H) c]] w fun e w' =>
      ∃ v, e = .returned (.tuple #[v, .int .i64 0]) ∧ w'.ownsRow w.heap.size 3 1 v W (numsOf (fun x => inkB z W x 0 1 H) W) ∧ Below w.heap.size w w' := by
  obtain ⟨i0, hi, hz0, hz1, hz2⟩ := info_parts info_int
  have hmf : ∀ (fn : Fn) (first cap : Array Value) (w : World), (Instr.makeFunc fn first cap).run Try.prog w = .ok (.func fn first cap) w := fun _ _ _ _ => rfl
  obtain ⟨⟨a1, a2, a3, a4⟩, z0, z1⟩ := sizeErr_zero hs
  have hpe : pageErr W H (W * H) = 0 := by unfold pageErr; rw [if_pos hs, if_pos (by simp [Int.natCast_mul])]
  have hgw : g < w.heap.size := by
    have := World.block_lt_of_cell? _ _ (hp 0 (Nat.mul_pos (by omega) (by omega)))
    simpa using this
  have HC := Lib.hid hp
  clear hp hs z0 z1
  go_enter Try.func63, Try.ntmps63
  go_wp2_with (first | (go_at_call 13; refine (checkBits_any _ _ _ _ _ _).mono ?_; rintro e w' ⟨rfl, rfl⟩) | (at_make; refine wpList_make_full _ rfl _ _ 69 rfl (w.heap.size + 2) 3 i0 (.int .i64 0) 1 Try.underlying69 hi hz0 hz1 _ _ _ _ W rfl rfl rfl rfl (by rw [hz2]; omega) (by unfold maxLen; omega) (by simp) ?_))
  intro w1 hown1 hgrow1
  rw [toList_madeCells_one, numsOf_zero] at hown1
  have hb1 := (Below.refl (w.heap.size + 2) _).grown hgrow1 (by simp) (by simp)
  have B1 := (below_alloc (new_below w (.cells #[.int .i64 W, .int .i64 H, .slice (some ⟨g, o, none⟩) (W * H) c] 24)) (.cells #[.int .i64 W, .int .i64 H, .slice (some ⟨g, o, none⟩) (W * H) c] 24)).trans (hb1.mono (show w.heap.size ≤ w.heap.size + 2 by omega))
  have k0 : w1.cell? ⟨w.heap.size, 0, none⟩ = some (.int .i64 W) := (hb1.cell (p := ⟨w.heap.size, 0, none⟩) (by simp)).trans (by go_simp)
  have k1 : w1.cell? ⟨w.heap.size, 1, none⟩ = some (.int .i64 H) := (hb1.cell (p := ⟨w.heap.size, 1, none⟩) (by simp)).trans (by go_simp)
  have k2 : w1.cell? ⟨w.heap.size, 2, none⟩ = some (.slice (some ⟨g, o, none⟩) (W * H) c) := (hb1.cell (p := ⟨w.heap.size, 2, none⟩) (by simp)).trans (by go_simp)
  have hlt2 : w.heap.size + 2 < w1.heap.size := (hown1.lt (w.heap.size + 2) rfl).2
  obtain ⟨w2, hw2⟩ : ∃ w2, w2 = w1.alloc (.cells #[.slice (some ⟨w.heap.size + 2, 0, none⟩) W W] 69) := ⟨_, rfl⟩
  have B2 : Below w1.heap.size w1 w2 := by rw [hw2]; exact new_below _ _
  have x0 : w2.cell? ⟨w1.heap.size, 0, none⟩ = some (.slice (some ⟨w.heap.size + 2, 0, none⟩) W W) := by rw [hw2]; go_simp
  have hs2 : w2.heap.size = w1.heap.size + 1 := by rw [hw2]; simp
  have O2 := below_owns hown1 B2
  have HO2 := Lib.hid O2
  have HB12 := Lib.hid (below_step B1 B2)
  have j0 := cell_later B2 k0
  have j1 := cell_later B2 k1
  have j2 := cell_later B2 k2
  have HX := Lib.hid x0
  have HJ := Lib.hid (And.intro j0 (And.intro j1 j2))
  have l0 : w.heap.size < w1.heap.size := by omega
  clear hgrow1 hb1 hown1 O2 B1 B2 x0 j0 j1 j2
  go_wp2_with fail
  rw [← hw2]
  clear hw2 k0 k1 k2
  refine (eachInk_any W H g o c 120 #[.pointer (some ⟨w1.heap.size, 0, none⟩)] z (fun y x wx => CountRel (w.heap.size + 2) w1.heap.size (colsAt z W y x) W w2 wx) (fun b => b ≠ w.heap.size + 2) w2 ⟨by omega, by omega⟩ ⟨by omega, by omega⟩ (Go.Proofs.enters_of Try.func120 (by kernel_rfl) rfl) (fun j hj => cell_later HB12.out (HC.out j hj)) (by omega) (by omega) ?_ ?_ ?_ ?_).mono ?_
  · refine ⟨?_, (Below.refl _ _).alloc (by omega) _, cell_later (new_below _ _) HX.out⟩
    have := below_owns HO2.out (new_below w2 (.cells #[.int .i64 W, .int .i64 H, .slice (some ⟨g, o, none⟩) (W * H) c] 24))
    rw [numsOf_congr (f := fun _ => 0) (g := colsAt z W 0 0) (fun j _ => by unfold colsAt; rw [if_neg (by omega)]; rfl)] at this
    exact this
  · exact fun y wx hy h => h.same fun i hi => colsAt_row z W y i hi
  · exact fun y x wx hx hy hz h => h.same fun i _ => colsAt_no z W y x i hz
  · intro y x wx hx hy hz h
    have hb9 : colsAt z W y x x ≤ 1000000000 := by
      unfold colsAt
      rw [if_neg (by omega)]
      have := sumN_le (fun k => (z (k * W + x)).toNat) 1 (fun j => toNat_le _) y
      unfold colN
      omega
    refine (columns1_any x y w1.heap.size (w.heap.size + 2) W _ wx hx (by omega) hb9 h.2.2 (h.get hx) (h.1.frozenAt x)).mono ?_
    rintro e w' ⟨rfl, rfl⟩
    refine ⟨rfl, h.store (by omega) hx ?_ ?_, fun b hb => Below.heap_setCell _ _ _ _ hb⟩
    · unfold colsAt
      rw [if_pos (by omega), if_neg (by omega), colN, sumN, hz]; rfl
    · intro i hi hne
      unfold colsAt
      by_cases e : i < x
      · rw [if_pos e, if_pos (by omega)]
      · rw [if_neg e, if_neg (by omega)]
  · rintro e w5 ⟨rfl, h5⟩
    have hc5 := h5.2.2
    have HO5 := Lib.hid (h5.same (g := fun x => inkB z W x 0 1 H) fun i hi => colsAt_end z W H i)
    clear h5
    go_wp2_with fail
    go_ret2
    exact ⟨_, rfl, owns_base HO5.out.1 (by omega), HB12.out.trans (HO5.out.2.1.mono (by omega))⟩

/-- What a list of counts is, in memory: nothing with an error, else the counts. -/
def ListIs (E : Int) (f : Nat → Nat) (m B : Nat) (w : World) (sl : Option Addr) (n' c' : Nat) : Prop :=
  (E ≠ 0 ∧ sl = none ∧ n' = 0 ∧ c' = 0) ∨ (E = 0 ∧ n' = m ∧ ∃ g, B ≤ g ∧ sl = some ⟨g, 0, none⟩ ∧ ∀ k, k < m → w.cell? ⟨g, 0 + k, none⟩ = some (.int .i64 ((f k : Nat) : Int)))

theorem ListIs.later {E : Int} {f : Nat → Nat} {m B : Nat} {w w' : World} {sl : Option Addr} {n' c' : Nat} (h : ListIs E f m B w sl n' c') (hb : Below w.heap.size w w') : ListIs E f m B w' sl n' c' := by
  rcases h with h | ⟨h1, h2, g, h3, h4, h5⟩
  · exact .inl h
  · exact .inr ⟨h1, h2, g, h3, h4, fun k hk => cell_later hb (h5 k hk)⟩

theorem owns_nums {w : World} {base : Nat} {v : Value} {f : Nat → Nat} {m : Nat} (h : w.ownsRow base 3 1 v m (numsOf f m)) (hm : 1 ≤ m) :
    ∃ g c, v = .slice (some ⟨g, 0, none⟩) m c ∧ base ≤ g ∧ ∀ k, k < m → w.cell? ⟨g, 0 + k, none⟩ = some (.int .i64 ((f k : Nat) : Int)) := by
  rcases h.2 with ⟨_, h0⟩ | ⟨g, c, cur, rfl, hg, _⟩
  · omega
  · exact ⟨g, c, rfl, hg, fun k hk => by rw [Nat.zero_add, h.cellAt k (by omega), numsOf_get f m k hk]⟩

end Go.Proofs.Ytcpgnfbjdokdcaa
namespace Go.Proofs.Ytcpgnfbjdokdcaa
open Go.RowKit
set_option linter.unusedSimpArgs false
set_option linter.unusedVariables false

/-- A list of numbers in memory. -/
def intsOf (f : Nat → Int) (n : Nat) : List Value := (List.range n).map fun k => Value.int .i64 (f k)
theorem intsOf_get (f : Nat → Int) (n k : Nat) (h : k < n) : (intsOf f n)[k]? = some (.int .i64 (f k)) := by simp [intsOf, List.getElem?_range h]
theorem intsOf_length (f : Nat → Int) (n : Nat) : (intsOf f n).length = n := by simp [intsOf]
theorem intsOf_set {f g : Nat → Int} {n j : Nat} {v : Int} (hj : j < n) (hv : g j = v) (h : ∀ i, i < n → i ≠ j → g i = f i) : (intsOf f n).set j (.int .i64 v) = intsOf g n := by
  apply List.ext_getElem?
  intro k
  rw [List.getElem?_set]
  by_cases e : j = k
  · subst e
    rw [if_pos rfl, intsOf_length, if_pos hj, intsOf_get g n j hj, hv]
  · rw [if_neg e]
    by_cases hk : k < n
    · rw [intsOf_get f n k hk, intsOf_get g n k hk, h k hk (fun e' => e e'.symm)]
    · rw [List.getElem?_eq_none (by rw [intsOf_length]; omega), List.getElem?_eq_none (by rw [intsOf_length]; omega)]
theorem intsOf_zero (n : Nat) : List.replicate n (Value.int .i64 0) = intsOf (fun _ => 0) n := by
  apply List.ext_getElem?
  intro k
  by_cases hk : k < n
  · rw [intsOf_get _ n k hk]; simp [hk]
  · rw [List.getElem?_eq_none (by simp; omega), List.getElem?_eq_none (by rw [intsOf_length]; omega)]
theorem intsOf_congr {f g : Nat → Int} {n : Nat} (h : ∀ j, j < n → f j = g j) : intsOf f n = intsOf g n := by
  apply List.ext_getElem?
  intro k
  by_cases hk : k < n
  · rw [intsOf_get f n k hk, intsOf_get g n k hk, h k hk]
  · rw [List.getElem?_eq_none (by rw [intsOf_length]; omega), List.getElem?_eq_none (by rw [intsOf_length]; omega)]

/-- By how much a column goes. -/
def fallV (L : Nat) (n : Int) (x : Nat) : Int := shiftV (n * ((x : Int) - (((L - 1) / 2 : Nat) : Int)))

theorem fall_prod {L x : Nat} {n : Int} (hL : L ≤ 4000) (hn : -256 ≤ n ∧ n ≤ 256) (hx : x < L) : -1100000 ≤ n * ((x : Int) - (((L - 1) / 2 : Nat) : Int)) ∧ n * ((x : Int) - (((L - 1) / 2 : Nat) : Int)) ≤ 1100000 := by
  obtain ⟨d, hd⟩ : ∃ d, d = (x : Int) - (((L - 1) / 2 : Nat) : Int) := ⟨_, rfl⟩
  rw [← hd]
  have h1 : -4000 ≤ d ∧ d ≤ 4000 := by omega
  have h2 : (n * d).natAbs ≤ 256 * 4000 := by rw [Int.natAbs_mul]; exact Nat.mul_le_mul (by omega) (by omega)
  omega
theorem fallV_bounds {L x : Nat} {n : Int} (hL : L ≤ 4000) (hn : -256 ≤ n ∧ n ≤ 256) (hx : x < L) : -1100 ≤ fallV L n x ∧ fallV L n x ≤ 1100 := shiftV_bounds (fall_prod hL hn hx)
set_option maxHeartbeats 800000 in
theorem shifts_any (L : Nat) (n : Int) (w : World) (hL : 1 ≤ L ∧ L ≤ 4000) (hn : -256 ≤ n ∧ n ≤ 256) :
    Calls Try.prog 163 #[.int .i64 L, .int .i64 n] w fun e w' => ∃ v, e = .returned v ∧ w'.ownsRow w.heap.size 3 1 v L (intsOf (fallV L n) L) ∧ Below w.heap.size w w' := by
  obtain ⟨i0, hi, hz0, hz1, hz2⟩ := info_parts info_int
  obtain ⟨m, hm⟩ : ∃ m, m = (L - 1) / 2 := ⟨_, rfl⟩
  have e1 : ((L : Int) - 1) / 2 = (m : Int) := by omega
  have hm2 : m ≤ 4000 := by omega
  have HM := Lib.hid hm
  have HN := Lib.hid hn
  obtain ⟨n1, n2⟩ := hn
  clear hm
  go_enter Try.func163, Try.ntmps163
  go_wp2_with (at_make; refine wpList_make_full _ rfl _ _ 69 rfl w.heap.size 3 i0 (.int .i64 0) 1 Try.underlying69 hi hz0 hz1 _ _ _ _ L rfl rfl rfl rfl (by rw [hz2]; omega) (by unfold maxLen; omega) (by simp) ?_)
  intro w1 hown1 hgrow1
  rw [toList_madeCells_one, intsOf_zero] at hown1
  have hb1 := (Below.refl w.heap.size _).grown hgrow1 (by simp) (by simp)
  have HST := Lib.hid (show w1.ownsRow w.heap.size 3 1 (.slice (some ⟨w.heap.size, 0, none⟩) L L) L (intsOf (fun j => if j < 0 then fallV L n j else 0) L) ∧ Below w.heap.size w w1 from ⟨by rw [intsOf_congr (g := fun _ => 0) (fun j _ => if_neg (by omega))]; exact hown1, hb1⟩)
  clear hgrow1 hb1 hown1
  go_wp2_with fail
  go_loopw [15] (fun i wr => ∃ j : Nat, j ≤ L ∧ i = .int .i64 j ∧ Hid (wr.ownsRow w.heap.size 3 1 (.slice (some ⟨w.heap.size, 0, none⟩) L L) L (intsOf (fun k => if k < j then fallV L n k else 0) L) ∧ Below w.heap.size w wr)) (fun i _ => L - (intOf i).toNat)
  case atStart => exact ⟨0, Nat.zero_le _, rfl, HST⟩
  case round =>
    obtain ⟨j, hj, rfl, HR⟩ := hrel
    by_cases hlt : j < L
    · have hcell := HR.out.1.cellAt j (by omega)
      rw [intsOf_get _ _ _ hlt, if_neg (by omega)] at hcell
      have hfz := HR.out.1.frozenAt j
      have hpr := fall_prod hL.2 HN.out hlt
      rw [← HM.out] at hpr
      obtain ⟨p, hp⟩ : ∃ p, p = n * ((j : Int) - (m : Int)) := ⟨_, rfl⟩
      rw [← hp] at hpr
      have hp' : n * ((j : Int) - (m : Int)) = p := hp.symm
      obtain ⟨p1, p2⟩ := hpr
      have i1 : (j : Int) < (L : Int) := by omega
      have HP := Lib.hid hp
      clear hp
      go_wp2_with fail
      refine (shift_any p _ ⟨p1, p2⟩).mono ?_
      rintro e wq ⟨rfl, rfl⟩
      obtain ⟨s, hs⟩ : ∃ s, s = shiftV p := ⟨_, rfl⟩
      have hsf : fallV L n j = s := by rw [hs]; unfold fallV; rw [HP.out, ← HM.out]
      rw [← hs]
      have HS := Lib.hid hsf
      clear hs hsf
      go_wp2_with fail
      go_roundw
      case rel =>
        refine ⟨j + 1, by omega, by go_num, Lib.hid ⟨?_, HR.out.2.setCell (by simp) _⟩⟩
        have h := (HR.out.1.stored j (.int .i64 s)).1
        rw [intsOf_set (g := fun k => if k < j + 1 then fallV L n k else 0) hlt (by rw [if_pos (by omega)]; exact HS.out) (fun i _ hne => by
          by_cases h1 : i < j
          · rw [if_pos (by omega), if_pos h1]
          · rw [if_neg (by omega), if_neg h1])] at h
        exact h
      case measure => simp [intOf]; omega
    · obtain rfl : j = L := by omega
      go_wp2_with fail
      go_ret
      refine ⟨_, rfl, ?_, HR.out.2⟩
      have h := HR.out.1
      rw [intsOf_congr (g := fallV j n) (fun k hk => if_pos hk)] at h
      exact h

end Go.Proofs.Ytcpgnfbjdokdcaa
namespace Go.Proofs.Ytcpgnfbjdokdcaa
open Go.RowKit
set_option linter.unusedSimpArgs false
set_option linter.unusedVariables false

theorem inkAtS_in (W H g o c x y : Nat) (q : Bool) (w : World) (hW : W ≤ 4000) (hH : H ≤ 4000) (hx : x < W) (hy : y < H) (hc : w.cell? ⟨g, o + (y * W + x), none⟩ = some (.bool q)) :
    Calls Try.prog 166 #[.agg #[.int .i64 W, .int .i64 H, .slice (some ⟨g, o, none⟩) (W * H) c], .int .i64 x, .int .i64 y] w fun e w' => e = .returned (.bool q) ∧ Below w.heap.size w w' := by
  have hcl := World.block_lt_of_cell? _ _ hc
  simp only at hcl
  have m0 : (0 : Int) ≤ (y : Int) * (W : Int) := Int.mul_nonneg (by omega) (by omega)
  have hfit := row_fits hy (show x + 1 ≤ W by omega)
  have m2 : (y : Int) * (W : Int) + (x : Int) < ((W * H : Nat) : Int) := by rw [← Int.natCast_mul]; omega
  have hN := Nat.mul_le_mul hW hH
  have m1 : (y : Int) * (W : Int) + (x : Int) < (W : Int) * (H : Int) := by rw [← Int.natCast_mul, ← Int.natCast_mul]; omega
  have m3 : (W : Int) * (H : Int) ≤ 100000000 := by rw [← Int.natCast_mul]; omega
  clear hfit hN
  go_enter Try.func166, Try.ntmps166
  go_wp2_with (first | (go_at_call 107; refine (outsideS_no _ _ _ _ (by omega)).mono ?_; rintro e w' ⟨rfl, rfl⟩))
  go_ret
  exact ⟨rfl, new_below _ _⟩

theorem inkAtS_out (W H g o n c : Nat) (x y : Int) (s : Option Addr) (w : World) (hW : W ≤ 4000) (hH : H ≤ 4000) (h : ¬ ((0 ≤ x ∧ x ≤ (W : Int) - 1) ∧ (0 ≤ y ∧ y ≤ (H : Int) - 1))) :
    Calls Try.prog 166 #[.agg #[.int .i64 W, .int .i64 H, .slice s n c], .int .i64 x, .int .i64 y] w fun e w' => e = .returned (.bool false) ∧ Below w.heap.size w w' := by
  by_cases hx : 0 ≤ x ∧ x ≤ (W : Int) - 1
  · have HY := Lib.hid (show ¬ (0 ≤ y ∧ y ≤ (H : Int) - 1) from fun k => h ⟨hx, k⟩)
    have HX := Lib.hid hx
    clear h hx
    go_enter Try.func166, Try.ntmps166
    go_wp2_with (first | (go_at_call 107; refine (outsideS_yes _ _ _ _ (by have := HY.out; omega)).mono ?_; rintro e w' ⟨rfl, rfl⟩) | (go_at_call 107; refine (outsideS_no _ _ _ _ (by have := HX.out; omega)).mono ?_; rintro e w' ⟨rfl, rfl⟩))
    go_ret
    exact ⟨rfl, new_below _ _⟩
  · have HX := Lib.hid hx
    clear h hx
    go_enter Try.func166, Try.ntmps166
    go_wp2_with (first | (go_at_call 107; refine (outsideS_yes _ _ _ _ (by have := HX.out; omega)).mono ?_; rintro e w' ⟨rfl, rfl⟩))
    go_ret
    exact ⟨rfl, new_below _ _⟩

/-- The error of how far a page leans. -/
def leanErr (n low : Int) : Int := if low ≤ n ∧ n ≤ 256 then 0 else 3

theorem atB_in {W H : Nat} {z : Nat → Bool} {x y : Nat} (hx : x < W) (hy : y < H) : atB W H z (x : Int) (y : Int) = z (y * W + x) := by
  unfold atB; rw [if_pos ⟨by omega, by omega⟩, Int.toNat_natCast, Int.toNat_natCast]

theorem inkAtS_any (W H g o c : Nat) (x y : Int) (z : Nat → Bool) (w : World) (hW : W ≤ 4000) (hH : H ≤ 4000) (hc : ∀ j, j < W * H → w.cell? ⟨g, o + j, none⟩ = some (.bool (z j))) :
    Calls Try.prog 166 #[.agg #[.int .i64 W, .int .i64 H, .slice (some ⟨g, o, none⟩) (W * H) c], .int .i64 x, .int .i64 y] w fun e w' => e = .returned (.bool (atB W H z x y)) ∧ Below w.heap.size w w' := by
  by_cases h : (0 ≤ x ∧ x ≤ (W : Int) - 1) ∧ (0 ≤ y ∧ y ≤ (H : Int) - 1)
  · obtain ⟨X, rfl⟩ : ∃ X : Nat, x = (X : Int) := ⟨x.toNat, by omega⟩
    obtain ⟨Y, rfl⟩ : ∃ Y : Nat, y = (Y : Int) := ⟨y.toNat, by omega⟩
    rw [atB_in (by omega) (by omega)]
    have hfit := row_fits (show Y < H by omega) (show X + 1 ≤ W by omega)
    exact inkAtS_in W H g o c X Y _ w hW hH (by omega) (by omega) (hc _ (by omega))
  · have e : atB W H z x y = false := by unfold atB; rw [if_neg h]
    rw [e]
    exact inkAtS_out W H g o (W * H) c x y _ w hW hH h
theorem atR_any (W H g o c : Nat) (x y : Int) (z : Nat → Bool) (w : World) (hW : W ≤ 4000) (hH : H ≤ 4000) (hc : ∀ j, j < W * H → w.cell? ⟨g, o + j, none⟩ = some (.bool (z j))) :
    Calls Try.prog 41 #[.agg #[.int .i64 W, .int .i64 H, .slice (some ⟨g, o, none⟩) (W * H) c], .int .i64 x, .int .i64 y] w fun e w' => e = .returned (.bool (atB W H z x y)) ∧ Below w.heap.size w w' := by
  by_cases h : (0 ≤ x ∧ x ≤ (W : Int) - 1) ∧ (0 ≤ y ∧ y ≤ (H : Int) - 1)
  · obtain ⟨X, rfl⟩ : ∃ X : Nat, x = (X : Int) := ⟨x.toNat, by omega⟩
    obtain ⟨Y, rfl⟩ : ∃ Y : Nat, y = (Y : Int) := ⟨y.toNat, by omega⟩
    rw [atB_in (by omega) (by omega)]
    have hfit := row_fits (show Y < H by omega) (show X + 1 ≤ W by omega)
    exact at_in W H g o c X Y _ w (by omega) (by omega) (by omega) (by omega) (hc _ (by omega))
  · have e : atB W H z x y = false := by unfold atB; rw [if_neg h]
    rw [e]
    exact at_out W H g o (W * H) c x y _ w (by omega) (by omega) h

set_option maxHeartbeats 400000 in
theorem lean1_any (W H gb lb g o c sg sc x y : Nat) (f : Nat → Int) (z : Nat → Bool) (w : World) (hW : W ≤ 4000) (hH : H ≤ 4000) (hx : x < W) (hy : y < H) (hf : -1100 ≤ f x ∧ f x ≤ 1100)
    (h0 : w.cell? ⟨gb, 0, none⟩ = some (.int .i64 W)) (h1 : w.cell? ⟨gb, 1, none⟩ = some (.int .i64 H)) (h2 : w.cell? ⟨gb, 2, none⟩ = some (.slice (some ⟨g, o, none⟩) (W * H) c)) (h3 : w.cell? ⟨lb, 0, none⟩ = some (.slice (some ⟨sg, 0, none⟩) W sc))
    (h4 : w.cell? ⟨sg, x, none⟩ = some (.int .i64 (f x))) (hc : ∀ j, j < W * H → w.cell? ⟨g, o + j, none⟩ = some (.bool (z j))) :
    Calls Try.prog 165 #[.int .i64 x, .int .i64 y, .pointer (some ⟨gb, 0, none⟩), .pointer (some ⟨lb, 0, none⟩)] w fun e w' => e = .returned (.bool (atB W H z (x : Int) ((y : Int) - f x))) ∧ Below w.heap.size w w' := by
  obtain ⟨s, hs⟩ : ∃ s, s = f x := ⟨_, rfl⟩
  rw [← hs] at hf h4 ⊢
  obtain ⟨s1, s2⟩ := hf
  have i1 : (x : Int) < (W : Int) := by omega
  have i0 : (0 : Int) ≤ (x : Int) := by omega
  have HI := Lib.hid (inkAtS_any W H g o c (x : Int) ((y : Int) - s) z w.drew hW hH (fun j hj => cell_later (Below.refl _ _).drew (hc j hj)))
  have e1 : IntKind.i64.wrap ((y : Int) - s) = (y : Int) - s := IntWalk.i64_in _ (by omega)
  clear hs hc
  go_enter Try.func165, Try.ntmps165
  go_wp2_with fail
  go_region_held3 (fun w' => w'.cell? ⟨gb, 0, none⟩ = some (.int .i64 W) ∧ w'.cell? ⟨gb, 1, none⟩ = some (.int .i64 H) ∧ w'.cell? ⟨gb, 2, none⟩ = some (.slice (some ⟨g, o, none⟩) (W * H) c) ∧ w'.cell? ⟨lb, 0, none⟩ = some (.slice (some ⟨sg, 0, none⟩) W sc) ∧ w'.cell? ⟨sg, x, none⟩ = some (.int .i64 s))
    (first | (go_keep; done) | (go_split_ands; exact ⟨cell_later hb5 (by assumption), cell_later hb5 (by assumption), cell_later hb5 (by assumption), cell_later hb5 (by assumption), cell_later hb5 (by assumption)⟩))
    ((first | (go_at_call 166; ((with_reducible refine HI.out.mono ?_); rintro e w5 ⟨rfl, hb5⟩))))
  go_wp2_with fail
  go_ret
  exact ⟨rfl, below_step (Below.refl _ _).drew hb5⟩

theorem checkLean_any (a b n : Int) (p : Option Addr) (k c : Nat) (w : World) :
    Calls Try.prog 162 #[.agg #[.int .i64 a, .int .i64 b, .slice p k c], .int .i64 n] w fun e w' => e = .returned (.int .i64 (orI (pageErr a b k) (leanErr n (-256)))) ∧ Below w.heap.size w w' := by
  by_cases hp : pageErr a b k = 0
  · have t1 : (pageErr a b k != 0) = false := by simpa using hp
    by_cases hn : -256 ≤ n ∧ n ≤ 256
    · have H1 := Lib.hid hn
      have e : orI (pageErr a b k) (leanErr n (-256)) = 0 := by unfold orI leanErr; rw [if_pos hp, if_pos hn]
      rw [e]
      clear hn e hp
      go_enter Try.func162, Try.ntmps162
      go_wp2_with (first | (go_at_call 13; refine (checkBits_any _ _ _ _ _ _).mono ?_; rintro e w' ⟨rfl, rfl⟩) | (go_at_call 107; refine (outsideS_no _ _ _ _ H1.out).mono ?_; rintro e w' ⟨rfl, rfl⟩))
      go_ret
      exact ⟨rfl, below_alloc (new_below _ _) _⟩
    · have H1 := Lib.hid hn
      have e : orI (pageErr a b k) (leanErr n (-256)) = 3 := by unfold orI leanErr; rw [if_pos hp, if_neg hn]
      rw [e]
      clear hn e hp
      go_enter Try.func162, Try.ntmps162
      go_wp2_with (first | (go_at_call 13; refine (checkBits_any _ _ _ _ _ _).mono ?_; rintro e w' ⟨rfl, rfl⟩) | (go_at_call 107; refine (outsideS_yes _ _ _ _ H1.out).mono ?_; rintro e w' ⟨rfl, rfl⟩))
      go_ret
      exact ⟨rfl, below_alloc (new_below _ _) _⟩
  · have t1 : (pageErr a b k != 0) = true := by simpa using hp
    have e : orI (pageErr a b k) (leanErr n (-256)) = pageErr a b k := by unfold orI; rw [if_neg hp]
    rw [e]
    clear e hp
    go_enter Try.func162, Try.ntmps162
    go_wp2_with (first | (go_at_call 13; refine (checkBits_any _ _ _ _ _ _).mono ?_; rintro e w' ⟨rfl, rfl⟩))
    go_ret
    exact ⟨rfl, below_alloc (new_below _ _) _⟩

set_option maxHeartbeats 800000 in
theorem moved_any (W H g o n c clo : Nat) (capt : Array Value) (f : Nat → Nat → Bool) (w : World) (hW : 1 ≤ W ∧ W ≤ 4000) (hH : 1 ≤ H ∧ H ≤ 4000) (hN : W * H ≤ 1048576)
    (eg : ∀ (args : Array Value) (W : World), (callFunc clo args).run Try.prog W = .ok (.enter clo args) W)
    (hc : ∀ (x y : Nat) (wx : World), x < W → y < H → Below w.heap.size w wx → Calls Try.prog clo (#[.int .i64 x, .int .i64 y] ++ capt) wx fun e W' => e = .returned (.bool (f x y)) ∧ Below wx.heap.size wx W') :
    Calls Try.prog 164 #[.agg #[.int .i64 W, .int .i64 H, .slice (some ⟨g, o, none⟩) n c], .func (.func clo) #[] capt] w fun e w' =>
      ∃ v, e = .returned (.agg #[.int .i64 W, .int .i64 H, v]) ∧ w'.ownsRow w.heap.size 4 1 v (W * H) ((places W f (W * H)).map Value.bool) ∧ Below w.heap.size w w' := by
  have HC := Lib.hid hc
  have EG := Lib.hid eg
  clear hc eg
  go_enter Try.func164, Try.ntmps164
  go_wp2_with fail
  obtain ⟨w1, hw1⟩ : ∃ w1, w1 = (w.alloc (.cells #[.int .i64 W, .int .i64 H, .slice (some ⟨g, o, none⟩) n c] 24)).alloc (.cells #[.int .i64 0, .int .i64 0, .slice none 0 0] 24) := ⟨_, rfl⟩
  have B1 : Below w.heap.size w w1 := by rw [hw1]; exact below_alloc (new_below _ _) _
  have q0 : w1.cell? ⟨w.heap.size, 0, none⟩ = some (.int .i64 W) := by rw [hw1]; go_simp
  have q1 : w1.cell? ⟨w.heap.size, 1, none⟩ = some (.int .i64 H) := by rw [hw1]; go_simp
  have qb : w1.heap[w.heap.size + 1]? = some (.cells #[.int .i64 0, .int .i64 0, .slice none 0 0] 24 (0, 0)) := by
    rw [hw1]; simpa using heap_alloc_new (w.alloc (.cells #[.int .i64 W, .int .i64 H, .slice (some ⟨g, o, none⟩) n c] 24)) (.cells #[.int .i64 0, .int .i64 0, .slice none 0 0] 24)
  rw [← hw1]
  clear hw1
  have lt3 := Lib.hid (Array.getElem?_eq_some_iff.1 qb).1
  have ne1 := Lib.hid (show w.heap.size ≠ w.heap.size + 1 by omega)
  have HW := Lib.hid (fillBool_any W H clo capt f w1.drew (by omega) (by omega) (by omega) (by omega) EG.out (fun x y wx hx hy hbx => HC.out x y wx hx hy (below_step B1.drew hbx)))
  go_region_held3 (fun w' => w'.cell? ⟨w.heap.size, 0, none⟩ = some (.int .i64 W) ∧ w'.cell? ⟨w.heap.size, 1, none⟩ = some (.int .i64 H))
    (first | (go_keep; done) | (go_split_ands; exact ⟨cell_later hb5 (by assumption), cell_later hb5 (by assumption)⟩) | (go_split_ands; exact ⟨cell_far3 ne1.out (by assumption), cell_far3 ne1.out (by assumption)⟩))
    ((first | (go_at_call 103; ((with_reducible refine HW.out.mono ?_); rintro e w5 ⟨v, rfl, hown5, hb5⟩; have hq5 := block3 (below_block (below_step (Below.refl _ _).drew hb5) qb); obtain ⟨j0, j1, j2, r0, r1, r2⟩ := hq5; have vs : ∃ a n c, v = .slice a n c := owns_shape hown5; obtain ⟨va, vn, vc, hv⟩ := vs; subst hv))))
  go_wp2_with fail
  refine bodyPost_ret (v := .agg #[.int .i64 W, .int .i64 H, .slice va vn vc]) (by simp [results, Try.results164, go_sem, j0, j1, j2]) rfl ⟨_, rfl, ?_, ?_⟩
  · exact owns_far3 hown5 lt3.out B1.size
  · exact below_far3 (below_step B1.drew hb5) (by omega)

end Go.Proofs.Ytcpgnfbjdokdcaa
namespace Go.Proofs.Ytcpgnfbjdokdcaa
open Go.RowKit
set_option linter.unusedSimpArgs false
set_option linter.unusedVariables false

theorem fallR_any (W H x : Nat) (n : Int) (s : Option Addr) (k c : Nat) (w : World) (hW : 1 ≤ W ∧ W ≤ 4000) (hn : -256 ≤ n ∧ n ≤ 256) (hx : x < W) :
    Calls Try.prog 144 #[.agg #[.int .i64 W, .int .i64 H, .slice s k c], .int .i64 n, .int .i64 x] w fun e w' => e = .returned (.int .i64 (fallV W n x)) ∧ Below w.heap.size w w' := by
  obtain ⟨m, hm⟩ : ∃ m, m = (W - 1) / 2 := ⟨_, rfl⟩
  have hpr := fall_prod hW.2 hn hx
  have hf : fallV W n x = shiftV (n * ((x : Int) - (m : Int))) := by unfold fallV; rw [← hm]
  rw [← hm] at hpr
  rw [hf]
  obtain ⟨p, hp⟩ : ∃ p, p = n * ((x : Int) - (m : Int)) := ⟨_, rfl⟩
  rw [← hp] at hpr ⊢
  have hp' : n * ((x : Int) - (m : Int)) = p := hp.symm
  obtain ⟨p1, p2⟩ := hpr
  have e1 : ((W : Int) - 1) / 2 = (m : Int) := by omega
  have hm2 : m ≤ 4000 := by omega
  clear hp hm hf
  go_enter Try.func144, Try.ntmps144
  go_wp2_with fail
  refine (down_any ((W : Int) - 1) 2 _ (by omega) (by omega) (by omega) (by omega)).mono ?_
  rintro e w' ⟨rfl, rfl⟩
  rw [e1]
  go_wp2_with fail
  refine (shiftR_any p _ ⟨p1, p2⟩).mono ?_
  rintro e w' ⟨rfl, rfl⟩
  go_wp2_with fail
  go_ret
  exact ⟨rfl, new_below _ _⟩

set_option maxHeartbeats 400000 in
theorem leanR1_any (W H gb nb g o c x y : Nat) (n : Int) (z : Nat → Bool) (w : World) (hW : 1 ≤ W ∧ W ≤ 4000) (hH : H ≤ 4000) (hx : x < W) (hy : y < H) (hn : -256 ≤ n ∧ n ≤ 256)
    (h0 : w.cell? ⟨gb, 0, none⟩ = some (.int .i64 W)) (h1 : w.cell? ⟨gb, 1, none⟩ = some (.int .i64 H)) (h2 : w.cell? ⟨gb, 2, none⟩ = some (.slice (some ⟨g, o, none⟩) (W * H) c)) (h3 : w.cell? ⟨nb, 0, none⟩ = some (.int .i64 n))
    (hc : ∀ j, j < W * H → w.cell? ⟨g, o + j, none⟩ = some (.bool (z j))) :
    Calls Try.prog 143 #[.int .i64 x, .int .i64 y, .pointer (some ⟨gb, 0, none⟩), .pointer (some ⟨nb, 0, none⟩)] w fun e w' => e = .returned (.bool (atB W H z (x : Int) ((y : Int) - fallV W n x))) ∧ Below w.heap.size w w' := by
  obtain ⟨s, hs⟩ : ∃ s, s = fallV W n x := ⟨_, rfl⟩
  have hb := fallV_bounds hW.2 hn hx
  rw [← hs] at hb ⊢
  obtain ⟨s1, s2⟩ := hb
  have e1 : IntKind.i64.wrap ((y : Int) - s) = (y : Int) - s := IntWalk.i64_in _ (by omega)
  have HC := Lib.hid hc
  have HS := Lib.hid hs
  clear hs hc
  go_enter Try.func143, Try.ntmps143
  go_wp2_with fail
  go_region_held3 (fun w' => w'.cell? ⟨gb, 0, none⟩ = some (.int .i64 W) ∧ w'.cell? ⟨gb, 1, none⟩ = some (.int .i64 H) ∧ w'.cell? ⟨gb, 2, none⟩ = some (.slice (some ⟨g, o, none⟩) (W * H) c) ∧ w'.cell? ⟨nb, 0, none⟩ = some (.int .i64 n))
    (first | (go_keep; done) | (go_split_ands; exact ⟨cell_later hb5 (by assumption), cell_later hb5 (by assumption), cell_later hb5 (by assumption), cell_later hb5 (by assumption)⟩) | (go_split_ands; exact ⟨cell_later hb6 (by assumption), cell_later hb6 (by assumption), cell_later hb6 (by assumption), cell_later hb6 (by assumption)⟩))
    ((first | (go_at_call 144; ((with_reducible refine (fallR_any W H x n _ _ _ _ hW hn hx).mono ?_); rw [← HS.out]; rintro e w5 ⟨rfl, hb5⟩)) | (go_at_call 41; ((with_reducible refine (atR_any W H g o c (x : Int) ((y : Int) - s) z w5 hW.2 hH (fun j hj => cell_later (below_step (Below.refl _ _).drew hb5) (HC.out j hj))).mono ?_); rintro e w6 ⟨rfl, hb6⟩))))
  go_wp2_with fail
  go_ret
  exact ⟨rfl, below_step (below_step (Below.refl _ _).drew hb5) hb6⟩

set_option maxHeartbeats 400000 in
theorem slantR1_any (W H gb nb g o c x y : Nat) (n : Int) (z : Nat → Bool) (w : World) (hW : W ≤ 4000) (hH : 1 ≤ H ∧ H ≤ 4000) (hx : x < W) (hy : y < H) (hn : -256 ≤ n ∧ n ≤ 256)
    (h0 : w.cell? ⟨gb, 0, none⟩ = some (.int .i64 W)) (h1 : w.cell? ⟨gb, 1, none⟩ = some (.int .i64 H)) (h2 : w.cell? ⟨gb, 2, none⟩ = some (.slice (some ⟨g, o, none⟩) (W * H) c)) (h3 : w.cell? ⟨nb, 0, none⟩ = some (.int .i64 n))
    (hc : ∀ j, j < W * H → w.cell? ⟨g, o + j, none⟩ = some (.bool (z j))) :
    Calls Try.prog 175 #[.int .i64 x, .int .i64 y, .pointer (some ⟨gb, 0, none⟩), .pointer (some ⟨nb, 0, none⟩)] w fun e w' => e = .returned (.bool (atB W H z ((x : Int) - fallV H (-n) y) (y : Int))) ∧ Below w.heap.size w w' := by
  obtain ⟨m, hm⟩ : ∃ m, m = (H - 1) / 2 := ⟨_, rfl⟩
  have hpr := fall_prod (n := -n) hH.2 (by omega) hy
  have hb := fallV_bounds (n := -n) hH.2 (by omega) hy
  have hf : fallV H (-n) y = shiftV (-n * ((y : Int) - (m : Int))) := by unfold fallV; rw [← hm]
  rw [← hm] at hpr
  obtain ⟨p, hp⟩ : ∃ p, p = n * ((m : Int) - (y : Int)) := ⟨_, rfl⟩
  have hpp : -n * ((y : Int) - (m : Int)) = p := by rw [hp, Int.neg_mul, ← Int.mul_neg]; congr 1; omega
  rw [hpp] at hpr hf
  have hp' : n * ((m : Int) - (y : Int)) = p := hp.symm
  obtain ⟨p1, p2⟩ := hpr
  obtain ⟨s, hs⟩ : ∃ s, s = fallV H (-n) y := ⟨_, rfl⟩
  rw [← hs] at hb hf ⊢
  obtain ⟨s1, s2⟩ := hb
  have d1 : ((H : Int) - 1) / 2 = (m : Int) := by omega
  have hm2 : m ≤ 4000 := by omega
  have e1 : IntKind.i64.wrap ((x : Int) - s) = (x : Int) - s := IntWalk.i64_in _ (by omega)
  have e2 : IntKind.i64.wrap ((H : Int) - 1) = (H : Int) - 1 := IntWalk.i64_in _ (by omega)
  have e3 : IntKind.i64.wrap ((m : Int) - (y : Int)) = (m : Int) - (y : Int) := IntWalk.i64_in _ (by omega)
  have e4 : IntKind.i64.wrap p = p := IntWalk.i64_in _ (by omega)
  have HC := Lib.hid hc
  have HS := Lib.hid hs
  have HF := Lib.hid hf
  have D1 := Lib.hid d1
  clear hs hc hp hm hf hpp d1
  go_enter Try.func175, Try.ntmps175
  go_wp2_with fail
  go_region_held3 (fun w' => w'.cell? ⟨gb, 0, none⟩ = some (.int .i64 W) ∧ w'.cell? ⟨gb, 1, none⟩ = some (.int .i64 H) ∧ w'.cell? ⟨gb, 2, none⟩ = some (.slice (some ⟨g, o, none⟩) (W * H) c) ∧ w'.cell? ⟨nb, 0, none⟩ = some (.int .i64 n))
    (first | (go_keep; done) | (go_split_ands; exact ⟨cell_later hb6 (by assumption), cell_later hb6 (by assumption), cell_later hb6 (by assumption), cell_later hb6 (by assumption)⟩))
    ((first | (go_at_call 112; ((with_reducible refine (down_any ((H : Int) - 1) 2 _ (by omega) (by omega) (by omega) (by omega)).mono ?_); rw [D1.out]; rintro e w' ⟨rfl, rfl⟩)) | (go_at_call 174; ((with_reducible refine (shiftR_any p _ ⟨p1, p2⟩).mono ?_); rw [← HF.out]; rintro e w' ⟨rfl, rfl⟩)) | (go_at_call 41; ((with_reducible refine (atR_any W H g o c ((x : Int) - s) (y : Int) z w.drew hW hH.2 (fun j hj => cell_later (Below.refl _ _).drew (HC.out j hj))).mono ?_); rintro e w6 ⟨rfl, hb6⟩))))
  go_wp2_with fail
  go_ret
  exact ⟨rfl, below_step (Below.refl _ _).drew hb6⟩

end Go.Proofs.Ytcpgnfbjdokdcaa
