/-
  What counts_holds leans on: contracts of the functions that it calls.
-/
import Derived.Test.YtcpgnfbjdokdcaaRows
import Derived.WalkKit
import Derived.WalkSpells
import Derived.WalkLawsBesides
import Derived.Lib.Hide
import Derived.Deep.RegionHeld3
import Derived.Shelf.Abstract
import Derived.Deep.AppendLies
import Derived.Deep.DrawnRows
import Derived.Deep.RegionLaw
import Derived.Deep.QuietTactic
import Derived.BigQuiet
import Derived.ProofKit
import Derived.OpenShut
import Derived.ShutString
import Derived.ChangeOld
import Derived.Lib.SmallJoins
import Derived.Deep.Grids
import Derived.Deep.DeepCutAuto
import Derived.Lib.MinMax
import Derived.Deep.CutRange
import Derived.Laws.EntriesVeiled
import Derived.StillTailTactics
import Derived.Test.YtcpgnfbjdokdcaaCCounts2
namespace Go.Proofs.Ytcpgnfbjdokdcaa
open Go.RowKit
set_option linter.unusedSimpArgs false
set_option linter.unusedVariables false

/-- A list of numbers, as values. -/
def numsOf (f : Nat → Nat) (n : Nat) : List Value := (List.range n).map fun k => Value.int .i64 ((f k : Nat) : Int)
theorem numsOf_succ (f : Nat → Nat) (n : Nat) : numsOf f (n + 1) = numsOf f n ++ [.int .i64 ((f n : Nat) : Int)] := by simp [numsOf, List.range_succ]
theorem numsOf_get (f : Nat → Nat) (n k : Nat) (h : k < n) : (numsOf f n)[k]? = some (.int .i64 ((f k : Nat) : Int)) := by simp [numsOf, List.getElem?_range h]

set_option maxHeartbeats 1000000 in
set_option maxRecDepth 100000 in
theorem rowsOf_any (W H g o c : Nat) (z : Nat → Bool) (w : World) (hW : 1 ≤ W ∧ W ≤ 4000) (hH : 1 ≤ H ∧ H ≤ 4000)
    (hp : ∀ j, j < W * H → w.cell? ⟨g, o + j, none⟩ = some (.bool (z j))) :
    Calls Try.prog 66 #[.agg #[.int .i64 W, .int .i64 H, .slice (some ⟨g, o, none⟩) (W * H) c]] w fun e w' => ∃ v, e = .returned v ∧ w'.ownsRow w.heap.size 3 1 v H (numsOf (fun y => inkB z W 0 y W 1) H) ∧ Below w.heap.size w w' := by
  obtain ⟨i0, hi, hz0, hz1, hz2⟩ := info_parts info_int
  obtain ⟨w1, hw1⟩ : ∃ w1, w1 = w.alloc (.cells #[.int .i64 W, .int .i64 H, .slice (some ⟨g, o, none⟩) (W * H) c] 24) := ⟨_, rfl⟩
  have B1 : Below w.heap.size w w1 := by rw [hw1]; exact new_below _ _
  have q0 : w1.cell? ⟨w.heap.size, 0, none⟩ = some (.int .i64 W) := by rw [hw1]; go_simp
  have q1 : w1.cell? ⟨w.heap.size, 1, none⟩ = some (.int .i64 H) := by rw [hw1]; go_simp
  have q2 : w1.cell? ⟨w.heap.size, 2, none⟩ = some (.slice (some ⟨g, o, none⟩) (W * H) c) := by rw [hw1]; go_simp
  have HC := Lib.hid (fun j hj => cell_later B1 (hp j hj))
  have HB1 := Lib.hid B1
  have hsz : w.heap.size ≤ w1.heap.size := B1.size
  clear hp B1
  go_enter Try.func66, Try.ntmps66
  go_upto_region 3 with fail
  rw [← hw1]
  clear hw1
  go_wp2_with fail
  go_loopw [3, 7] (fun v i wr => ∃ y : Nat, y ≤ H ∧ i = .int .i64 y ∧ wr.ownsRow w1.heap.size 3 1 v y (numsOf (fun y => inkB z W 0 y W 1) y) ∧ Below w1.heap.size w1 wr) (fun _ i _ => H - (intOf i).toNat)
  case atStart => exact ⟨0, Nat.zero_le _, rfl, by simpa [numsOf] using World.ownsRow_nil _ _ _ _, Below.refl _ _⟩
  case round =>
    obtain ⟨y, hy, rfl, hown, hb⟩ := hrel
    have c0 := cell_later hb q0
    have c1 := cell_later hb q1
    have c2 := cell_later hb q2
    have HO := Lib.hid hown
    have HB := Lib.hid hb
    clear hown hb
    by_cases hlt : y < H
    · have HI := Lib.hid (inkOf_any W H 0 y W 1 g o c z wr hW.2 hH.2 (by omega) (by omega) (fun j hj => cell_later HB.out (HC.out j hj)))
      obtain ⟨K, hK⟩ : ∃ K, K = inkB z W 0 y W 1 := ⟨_, rfl⟩
      rw [← hK] at HI
      have HK := Lib.hid hK
      clear hK
      go_wp2_with (first | (go_at_call 70; refine HI.out.mono ?_; rintro e wq ⟨rfl, hbq⟩) | (at_builtin; refine wpList_append_own _ rfl _ _ 69 rfl w1.heap.size 3 i0 (.int .i64 0) 1 8 Try.underlying69 hi hz0 hz1 hz2 rfl (by decide) _ _ _ rfl ((below_owns HO.out hbq).alloc _) ⟨wq.heap.size, 0, none⟩ 1 1 [.int .i64 (K : Int)] rfl rfl ?c1 ?c2 ?c3 ?c4 ?c5 ?_))
      case c1 => exact cell_one_new _ _ _
      case c2 => intro u hu; simp at hu; subst hu; rfl
      case c3 => unfold maxLen; omega
      case c4 => omega
      case c5 => have h1 := HB.out.size; have h2 := hbq.size; simp; omega
      · intro v' w5 hown5 hgr5 _
        have hB2 := HB.out.trans (hbq.mono HB.out.size)
        have hb5 : Below w1.heap.size w1 w5 := (hB2.alloc hB2.size _).grown hgr5 (by have h1 := hB2.size; simp; omega) (fun k hk => (HO.out.lt k hk).1)
        have H5 := Lib.hid hown5
        have B5 := Lib.hid hb5
        clear hgr5 hown5 hb5 hB2 hbq
        go_wp2_with fail
        go_roundw
        case rel => exact ⟨y + 1, by omega, by go_num, by rw [numsOf_succ, ← HK.out]; exact H5.out, B5.out⟩
        case measure => simp [intOf]; omega
    · obtain rfl : y = H := by omega
      go_wp2_with fail
      go_ret
      exact ⟨_, rfl, owns_base HO.out hsz, below_step HB1.out HB.out⟩

set_option maxHeartbeats 1000000 in
set_option maxRecDepth 100000 in
theorem columnsOf_any (W H g o c : Nat) (z : Nat → Bool) (w : World) (hW : 1 ≤ W ∧ W ≤ 4000) (hH : 1 ≤ H ∧ H ≤ 4000)
    (hp : ∀ j, j < W * H → w.cell? ⟨g, o + j, none⟩ = some (.bool (z j))) :
    Calls Try.prog 67 #[.agg #[.int .i64 W, .int .i64 H, .slice (some ⟨g, o, none⟩) (W * H) c]] w fun e w' => ∃ v, e = .returned v ∧ w'.ownsRow w.heap.size 3 1 v W (numsOf (fun x => inkB z W x 0 1 H) W) ∧ Below w.heap.size w w' := by
  obtain ⟨i0, hi, hz0, hz1, hz2⟩ := info_parts info_int
  obtain ⟨w1, hw1⟩ : ∃ w1, w1 = w.alloc (.cells #[.int .i64 W, .int .i64 H, .slice (some ⟨g, o, none⟩) (W * H) c] 24) := ⟨_, rfl⟩
  have B1 : Below w.heap.size w w1 := by rw [hw1]; exact new_below _ _
  have q0 : w1.cell? ⟨w.heap.size, 0, none⟩ = some (.int .i64 W) := by rw [hw1]; go_simp
  have q1 : w1.cell? ⟨w.heap.size, 1, none⟩ = some (.int .i64 H) := by rw [hw1]; go_simp
  have q2 : w1.cell? ⟨w.heap.size, 2, none⟩ = some (.slice (some ⟨g, o, none⟩) (W * H) c) := by rw [hw1]; go_simp
  have HC := Lib.hid (fun j hj => cell_later B1 (hp j hj))
  have HB1 := Lib.hid B1
  have hsz : w.heap.size ≤ w1.heap.size := B1.size
  clear hp B1
  go_enter Try.func67, Try.ntmps67
  go_upto_region 3 with fail
  rw [← hw1]
  clear hw1
  go_wp2_with fail
  go_loopw [3, 7] (fun v i wr => ∃ y : Nat, y ≤ W ∧ i = .int .i64 y ∧ wr.ownsRow w1.heap.size 3 1 v y (numsOf (fun x => inkB z W x 0 1 H) y) ∧ Below w1.heap.size w1 wr) (fun _ i _ => W - (intOf i).toNat)
  case atStart => exact ⟨0, Nat.zero_le _, rfl, by simpa [numsOf] using World.ownsRow_nil _ _ _ _, Below.refl _ _⟩
  case round =>
    obtain ⟨y, hy, rfl, hown, hb⟩ := hrel
    have c0 := cell_later hb q0
    have c1 := cell_later hb q1
    have c2 := cell_later hb q2
    have HO := Lib.hid hown
    have HB := Lib.hid hb
    clear hown hb
    by_cases hlt : y < W
    · have HI := Lib.hid (inkOf_any W H y 0 1 H g o c z wr hW.2 hH.2 (by omega) (by omega) (fun j hj => cell_later HB.out (HC.out j hj)))
      obtain ⟨K, hK⟩ : ∃ K, K = inkB z W y 0 1 H := ⟨_, rfl⟩
      rw [← hK] at HI
      have HK := Lib.hid hK
      clear hK
      go_wp2_with (first | (go_at_call 70; refine HI.out.mono ?_; rintro e wq ⟨rfl, hbq⟩) | (at_builtin; refine wpList_append_own _ rfl _ _ 69 rfl w1.heap.size 3 i0 (.int .i64 0) 1 8 Try.underlying69 hi hz0 hz1 hz2 rfl (by decide) _ _ _ rfl ((below_owns HO.out hbq).alloc _) ⟨wq.heap.size, 0, none⟩ 1 1 [.int .i64 (K : Int)] rfl rfl ?c1 ?c2 ?c3 ?c4 ?c5 ?_))
      case c1 => exact cell_one_new _ _ _
      case c2 => intro u hu; simp at hu; subst hu; rfl
      case c3 => unfold maxLen; omega
      case c4 => omega
      case c5 => have h1 := HB.out.size; have h2 := hbq.size; simp; omega
      · intro v' w5 hown5 hgr5 _
        have hB2 := HB.out.trans (hbq.mono HB.out.size)
        have hb5 : Below w1.heap.size w1 w5 := (hB2.alloc hB2.size _).grown hgr5 (by have h1 := hB2.size; simp; omega) (fun k hk => (HO.out.lt k hk).1)
        have H5 := Lib.hid hown5
        have B5 := Lib.hid hb5
        clear hgr5 hown5 hb5 hB2 hbq
        go_wp2_with fail
        go_roundw
        case rel => exact ⟨y + 1, by omega, by go_num, by rw [numsOf_succ, ← HK.out]; exact H5.out, B5.out⟩
        case measure => simp [intOf]; omega
    · obtain rfl : y = W := by omega
      go_wp2_with fail
      go_ret
      exact ⟨_, rfl, owns_base HO.out hsz, below_step HB1.out HB.out⟩

end Go.Proofs.Ytcpgnfbjdokdcaa

namespace Go.Proofs.Ytcpgnfbjdokdcaa
open Go.RowKit
set_option linter.unusedSimpArgs false
set_option linter.unusedVariables false

set_option maxHeartbeats 1000000 in
set_option maxRecDepth 100000 in
theorem eachInk_any (W H g o c clo : Nat) (capt : Array Value) (z : Nat → Bool) (I : Nat → Nat → World → Prop) (K : Nat → Prop) (W0 : World) (hW : 1 ≤ W ∧ W ≤ 4000) (hH : 1 ≤ H ∧ H ≤ 4000)
    (eg : ∀ (args : Array Value) (W : World), (callFunc clo args).run Try.prog W = .ok (.enter clo args) W)
    (hp : ∀ j, j < W * H → W0.cell? ⟨g, o + j, none⟩ = some (.bool (z j))) (hK : K g) (hK0 : K W0.heap.size)
    (hI0 : I 0 0 (W0.alloc (.cells #[.int .i64 W, .int .i64 H, .slice (some ⟨g, o, none⟩) (W * H) c] 24)))
    (hrow : ∀ y wx, y < H → I y W wx → I (y + 1) 0 wx)
    (hno : ∀ y x wx, x < W → y < H → z (y * W + x) = false → I y x wx → I y (x + 1) wx)
    (hyes : ∀ y x wx, x < W → y < H → z (y * W + x) = true → I y x wx → Calls Try.prog clo (#[.int .i64 x, .int .i64 y] ++ capt) wx fun e w' => e = .returned (.tuple #[]) ∧ I y (x + 1) w' ∧ ∀ b, K b → w'.heap[b]? = wx.heap[b]?) :
    Calls Try.prog 118 #[.agg #[.int .i64 W, .int .i64 H, .slice (some ⟨g, o, none⟩) (W * H) c], .func (.func clo) #[] capt] W0 fun e w' => e = .returned (.tuple #[]) ∧ I H 0 w' := by
  obtain ⟨w1, hw1⟩ : ∃ w1, w1 = W0.alloc (.cells #[.int .i64 W, .int .i64 H, .slice (some ⟨g, o, none⟩) (W * H) c] 24) := ⟨_, rfl⟩
  have B1 : Below W0.heap.size W0 w1 := by rw [hw1]; exact new_below _ _
  have q0 : w1.cell? ⟨W0.heap.size, 0, none⟩ = some (.int .i64 W) := by rw [hw1]; go_simp
  have q1 : w1.cell? ⟨W0.heap.size, 1, none⟩ = some (.int .i64 H) := by rw [hw1]; go_simp
  have q2 : w1.cell? ⟨W0.heap.size, 2, none⟩ = some (.slice (some ⟨g, o, none⟩) (W * H) c) := by rw [hw1]; go_simp
  have HC := Lib.hid (fun j hj => cell_later B1 (hp j hj))
  have hN : W * H ≤ 16000000 := Nat.mul_le_mul hW.2 hH.2
  rw [← hw1] at hI0
  have HR := Lib.hid hrow
  have HNo := Lib.hid hno
  have HY := Lib.hid hyes
  have HK := Lib.hid hK
  have HK0 := Lib.hid hK0
  clear hp B1 hrow hno hyes hK hK0
  go_enter Try.func118, Try.ntmps118
  go_upto_region 1 with fail
  rw [← hw1]
  clear hw1
  go_wp2_with fail
  go_loopw [8] (fun i wr => ∃ y : Nat, y ≤ H ∧ i = .int .i64 y ∧ I y 0 wr ∧ ∀ b, K b → wr.heap[b]? = w1.heap[b]?) (fun i _ => H - (intOf i).toNat)
  case atStart => exact ⟨0, Nat.zero_le _, rfl, hI0, fun _ _ => rfl⟩
  case round =>
    obtain ⟨y, hy, rfl, hI, hk⟩ := hrel
    have d0 := (World.cell?_of_block (a := ⟨W0.heap.size, 0, none⟩) (hk _ HK0.out)).trans q0
    have d1 := (World.cell?_of_block (a := ⟨W0.heap.size, 1, none⟩) (hk _ HK0.out)).trans q1
    have HKk := Lib.hid hk
    clear hk
    by_cases hlt : y < H
    · obtain ⟨wo, rfl⟩ : ∃ wo : World, wo = wr := ⟨_, rfl⟩
      go_wp2_with fail
      go_loopw [13] (fun i wr => ∃ x : Nat, x ≤ W ∧ i = .int .i64 x ∧ I y x wr ∧ ∀ b, K b → wr.heap[b]? = w1.heap[b]?) (fun i _ => W - (intOf i).toNat)
      case atStart => exact ⟨0, Nat.zero_le _, rfl, hI, HKk.out⟩
      case round =>
        obtain ⟨x, hx, rfl, hIx, hk⟩ := hrel
        clear d0 d1
        have d0 := (World.cell?_of_block (a := ⟨W0.heap.size, 0, none⟩) (hk _ HK0.out)).trans q0
        have d1 := (World.cell?_of_block (a := ⟨W0.heap.size, 1, none⟩) (hk _ HK0.out)).trans q1
        have d2 := (World.cell?_of_block (a := ⟨W0.heap.size, 2, none⟩) (hk _ HK0.out)).trans q2
        have HKx := Lib.hid hk
        clear hk
        by_cases hltx : x < W
        · have hfit := row_fits hlt (show x + 1 ≤ W by omega)
          have hpx := (World.cell?_of_block (a := ⟨g, o + (y * W + x), none⟩) (HKx.out _ HK.out)).trans (HC.out _ (by omega))
          have v0 : (0 : Int) ≤ (y : Int) * (W : Int) := Int.mul_nonneg (by omega) (by omega)
          have v1 : (y : Int) * (W : Int) + (x : Int) < (W : Int) * (H : Int) := by rw [← Int.natCast_mul, ← Int.natCast_mul]; omega
          have v2 : (y : Int) * (W : Int) + (x : Int) < ((W * H : Nat) : Int) := by rw [← Int.natCast_mul]; omega
          have v3 : (W : Int) * (H : Int) ≤ 16000000 := by rw [← Int.natCast_mul]; omega
          obtain ⟨t, ht⟩ : ∃ t, t = z (y * W + x) := ⟨_, rfl⟩
          rw [← ht] at hpx
          have HT := Lib.hid ht
          clear hfit ht
          cases t
          · go_wp2_with fail
            go_roundw
            case rel => exact ⟨x + 1, by omega, by go_num, HNo.out y x _ hltx hlt HT.out.symm hIx, HKx.out⟩
            case measure => simp [intOf]; omega
          · go_wp2_with (go_at_fn clo; refine (HY.out y x _ hltx hlt HT.out.symm hIx).mono ?_; rintro e w' ⟨rfl, hI', hk'⟩)
            go_roundw
            case rel => exact ⟨x + 1, by omega, by go_num, hI', fun b hb => (hk' b hb).trans (HKx.out b hb)⟩
            case measure => simp [intOf]; omega
        · obtain rfl : x = W := by omega
          go_wp2_with fail
          go_roundw
          case rel => exact ⟨y + 1, by omega, by go_num, HR.out y _ hlt hIx, HKx.out⟩
          case measure => simp [intOf]; omega
    · have hye := Lib.hid (show y = H by omega)
      go_wp2_with fail
      go_end0
      exact ⟨rfl, by have h := hI; rw [hye.out] at h; exact h⟩

end Go.Proofs.Ytcpgnfbjdokdcaa

namespace Go.Proofs.Ytcpgnfbjdokdcaa
open Go.RowKit
set_option linter.unusedSimpArgs false
set_option linter.unusedVariables false

theorem numsOf_congr {f g : Nat → Nat} {n : Nat} (h : ∀ j, j < n → f j = g j) : numsOf f n = numsOf g n := by
  unfold numsOf
  refine List.map_congr_left fun k hk => ?_
  rw [h k (by simpa using hk)]
theorem numsOf_set {f g : Nat → Nat} {n j v : Nat} (hj : j < n) (hv : g j = v) (h : ∀ i, i < n → i ≠ j → g i = f i) : (numsOf f n).set j (.int .i64 ((v : Nat) : Int)) = numsOf g n := by
  refine List.ext_getElem? fun k => ?_
  rw [List.getElem?_set]
  by_cases hk : k < n
  · rw [numsOf_get g n k hk]
    by_cases e : j = k
    · subst e; simp [numsOf, hv, hj]
    · rw [if_neg e, numsOf_get f n k hk, h k hk fun e' => e e'.symm]
  · have h1 : (numsOf g n)[k]? = none := by simp [numsOf]; omega
    have h2 : (numsOf f n)[k]? = none := by simp [numsOf]; omega
    rw [h1]
    by_cases e : j = k
    · omega
    · rw [if_neg e, h2]
theorem numsOf_length (f : Nat → Nat) (n : Nat) : (numsOf f n).length = n := by simp [numsOf]

/-- The counts of the rows while the pixel (x, y) is the next one. -/
def rowsAt (z : Nat → Bool) (W y x j : Nat) : Nat := if j < y then ink1 z W 0 j W else if j = y then ink1 z W 0 y x else 0
/-- The ink of the first y places of a column. -/
def colN (z : Nat → Bool) (W i y : Nat) : Nat := sumN (fun k => (z (k * W + i)).toNat) y
def colsAt (z : Nat → Bool) (W y x i : Nat) : Nat := if i < x then colN z W i (y + 1) else colN z W i y

theorem rowsAt_row (z : Nat → Bool) (W y j : Nat) : rowsAt z W y W j = rowsAt z W (y + 1) 0 j := by
  unfold rowsAt
  by_cases h : j < y
  · rw [if_pos h, if_pos (by omega)]
  · rw [if_neg h]
    by_cases e : j = y
    · rw [if_pos e, if_pos (by omega), e]
    · rw [if_neg e, if_neg (by omega)]
      split <;> simp [ink1, sumN]
theorem ink1_succ (z : Nat → Bool) (W y x : Nat) : ink1 z W 0 y (x + 1) = ink1 z W 0 y x + (z (y * W + x)).toNat := by simp [ink1, sumN]
theorem rowsAt_no (z : Nat → Bool) (W y x j : Nat) (h : z (y * W + x) = false) : rowsAt z W y x j = rowsAt z W y (x + 1) j := by
  unfold rowsAt
  rw [ink1_succ, h]
  simp
theorem rowsAt_end (z : Nat → Bool) (W H j : Nat) (h : j < H) : rowsAt z W H 0 j = inkB z W 0 j W 1 := by
  unfold rowsAt inkB
  rw [if_pos h]
  simp [sumN]
theorem colsAt_row (z : Nat → Bool) (W y i : Nat) (h : i < W) : colsAt z W y W i = colsAt z W (y + 1) 0 i := by
  unfold colsAt
  rw [if_pos h, if_neg (by omega)]
theorem colsAt_no (z : Nat → Bool) (W y x i : Nat) (h : z (y * W + x) = false) : colsAt z W y x i = colsAt z W y (x + 1) i := by
  unfold colsAt
  by_cases h1 : i < x
  · rw [if_pos h1, if_pos (by omega)]
  · rw [if_neg h1]
    by_cases h2 : i = x
    · rw [if_pos (by omega), colN, colN, sumN, h2, h]; rfl
    · rw [if_neg (by omega)]
theorem colsAt_end (z : Nat → Bool) (W H i : Nat) : colsAt z W H 0 i = inkB z W i 0 1 H := by
  unfold colsAt inkB colN
  rw [if_neg (by omega)]
  exact sumN_congr fun j _ => by simp [ink1, sumN]

set_option maxRecDepth 100000 in
theorem rows1_any (x y cb ab n k : Nat) (w : World) (hy : y < n) (hn : n ≤ 100000) (hk : k ≤ 1000000000) (c0 : w.cell? ⟨cb, 0, none⟩ = some (.slice (some ⟨ab, 0, none⟩) n n)) (c1 : w.cell? ⟨ab, y, none⟩ = some (.int .i64 (k : Int))) (f1 : w.frozen? ⟨ab, y, none⟩ = false) :
    Calls Try.prog 119 #[.int .i64 x, .int .i64 y, .pointer (some ⟨cb, 0, none⟩)] w fun e w' => e = .returned (.tuple #[]) ∧ w.setCell ⟨ab, y, none⟩ (.int .i64 ((k + 1 : Nat) : Int)) = w' := by
  have h0 : (y : Int) < (n : Int) := by omega
  have h1 : (0 : Int) ≤ (y : Int) := by omega
  go_enter Try.func119, Try.ntmps119
  go_wp2_with fail
  go_end0
  exact ⟨rfl, rfl⟩

set_option maxRecDepth 100000 in
theorem columns1_any (x y cb ab n k : Nat) (w : World) (hy : x < n) (hn : n ≤ 100000) (hk : k ≤ 1000000000) (c0 : w.cell? ⟨cb, 0, none⟩ = some (.slice (some ⟨ab, 0, none⟩) n n)) (c1 : w.cell? ⟨ab, x, none⟩ = some (.int .i64 (k : Int))) (f1 : w.frozen? ⟨ab, x, none⟩ = false) :
    Calls Try.prog 120 #[.int .i64 x, .int .i64 y, .pointer (some ⟨cb, 0, none⟩)] w fun e w' => e = .returned (.tuple #[]) ∧ w.setCell ⟨ab, x, none⟩ (.int .i64 ((k + 1 : Nat) : Int)) = w' := by
  have h0 : (x : Int) < (n : Int) := by omega
  have h1 : (0 : Int) ≤ (x : Int) := by omega
  go_enter Try.func120, Try.ntmps120
  go_wp2_with fail
  go_end0
  exact ⟨rfl, rfl⟩

theorem rows_badPage (a b : Int) (p : Option Addr) (n c : Nat) (w : World) (h : pageErr a b n ≠ 0) :
    Calls Try.prog 62 #[.agg #[.int .i64 a, .int .i64 b, .slice p n c]] w fun e w' => e = .returned (.tuple #[.slice none 0 0, .int .i64 (pageErr a b n)]) ∧ Below w.heap.size w w' := by
  have h' : (pageErr a b n != 0) = true := by simpa using h
  clear h
  go_enter Try.func62, Try.ntmps62
  go_wp2_with ((go_at_call 13; refine (checkBits_any _ _ _ _ _ _).mono ?_; rintro e w' ⟨rfl, rfl⟩))
  go_ret2
  exact ⟨rfl, below_alloc (new_below _ _) _⟩

/-- What holds between two pixels: the counts, in the row ab; what lies below is as it was; the box of the counts. -/
def CountRel (ab cb : Nat) (f : Nat → Nat) (n : Nat) (w2 wx : World) : Prop :=
  wx.ownsRow ab 3 1 (.slice (some ⟨ab, 0, none⟩) n n) n (numsOf f n) ∧ Below ab w2 wx ∧ wx.cell? ⟨cb, 0, none⟩ = some (.slice (some ⟨ab, 0, none⟩) n n)

theorem CountRel.get {ab cb n j : Nat} {f : Nat → Nat} {w2 wx : World} (h : CountRel ab cb f n w2 wx) (hj : j < n) : wx.cell? ⟨ab, j, none⟩ = some (.int .i64 ((f j : Nat) : Int)) := by
  rw [h.1.cellAt j (by omega), numsOf_get f n j hj]
theorem CountRel.store {ab cb n j : Nat} {f g : Nat → Nat} {w2 wx : World} (h : CountRel ab cb f n w2 wx) (hc : cb ≠ ab) (hj : j < n) (hg : g j = f j + 1) (ho : ∀ i, i < n → i ≠ j → g i = f i) : CountRel ab cb g n w2 (wx.setCell ⟨ab, j, none⟩ (.int .i64 ((f j + 1 : Nat) : Int))) := by
  refine ⟨?_, h.2.1.setCell (Nat.le_refl _) _, ?_⟩
  · have := (h.1.stored j (.int .i64 ((f j + 1 : Nat) : Int))).1
    rw [numsOf_set hj hg ho] at this
    exact this
  · rw [World.cell?_of_block (Below.heap_setCell _ _ _ _ (by simpa using hc))]
    exact h.2.2
theorem CountRel.same {ab cb n : Nat} {f g : Nat → Nat} {w2 wx : World} (h : CountRel ab cb f n w2 wx) (he : ∀ i, i < n → f i = g i) : CountRel ab cb g n w2 wx :=
  ⟨by rw [← numsOf_congr he]; exact h.1, h.2⟩

theorem numsOf_zero (n : Nat) : List.replicate n (Value.int .i64 0) = numsOf (fun _ => 0) n := by
  refine List.ext_getElem? fun k => ?_
  by_cases hk : k < n
  · rw [numsOf_get _ _ _ hk, List.getElem?_replicate, if_pos hk]; rfl
  · rw [List.getElem?_replicate, if_neg hk]; symm; exact List.getElem?_eq_none (by rw [numsOf_length]; omega)

set_option maxHeartbeats 1000000 in
set_option maxRecDepth 100000 in
theorem rows_ok (W H g o c : Nat) (z : Nat → Bool) (w : World) (hs : sizeErr W H = 0)
    (hp : ∀ j, j < W * H → w.cell? ⟨g, o + j, none⟩ = some (.bool (z j))) :
    Calls Try.prog 62 #[.agg #[.int .i64 W, .int .i64 H, .slice (some ⟨g, o, none⟩) (W * H) c]] w fun e w' =>
      ∃ v, e = .returned (.tuple #[v, .int .i64 0]) ∧ w'.ownsRow w.heap.size 3 1 v H (numsOf (fun y => inkB z W 0 y W 1) H) ∧ Below w.heap.size w w' := by
  obtain ⟨i0, hi, hz0, hz1, hz2⟩ := info_parts info_int
  have hmf : ∀ (fn : Fn) (first cap : Array Value) (w : World), (Instr.makeFunc fn first cap).run Try.prog w = .ok (.func fn first cap) w := fun _ _ _ _ => rfl
  obtain ⟨⟨a1, a2, a3, a4⟩, z0, z1⟩ := sizeErr_zero hs
  have hpe : pageErr W H (W * H) = 0 := by unfold pageErr; rw [if_pos hs, if_pos (by simp [Int.natCast_mul])]
  have hgw : g < w.heap.size := by
    have := World.block_lt_of_cell? _ _ (hp 0 (Nat.mul_pos (by omega) (by omega)))
    simpa using this
  have HC := Lib.hid hp
  clear hp hs z0 z1
  go_enter Try.func62, Try.ntmps62
  go_wp2_with (first | (go_at_call 13; refine (checkBits_any _ _ _ _ _ _).mono ?_; rintro e w' ⟨rfl, rfl⟩) | (at_make; refine wpList_make_full _ rfl _ _ 69 rfl (w.heap.size + 2) 3 i0 (.int .i64 0) 1 Try.underlying69 hi hz0 hz1 _ _ _ _ H rfl rfl rfl rfl (by rw [hz2]; omega) (by unfold maxLen; omega) (by simp) ?_))
  intro w1 hown1 hgrow1
  rw [toList_madeCells_one, numsOf_zero] at hown1
  have hb1 := (Below.refl (w.heap.size + 2) _).grown hgrow1 (by simp) (by simp)
  have B1 := (below_alloc (new_below w (.cells #[.int .i64 W, .int .i64 H, .slice (some ⟨g, o, none⟩) (W * H) c] 24)) (.cells #[.int .i64 W, .int .i64 H, .slice (some ⟨g, o, none⟩) (W * H) c] 24)).trans (hb1.mono (show w.heap.size ≤ w.heap.size + 2 by omega))
  have k0 : w1.cell? ⟨w.heap.size, 0, none⟩ = some (.int .i64 W) := (hb1.cell (p := ⟨w.heap.size, 0, none⟩) (by simp)).trans (by go_simp)
  have k1 : w1.cell? ⟨w.heap.size, 1, none⟩ = some (.int .i64 H) := (hb1.cell (p := ⟨w.heap.size, 1, none⟩) (by simp)).trans (by go_simp)
  have k2 : w1.cell? ⟨w.heap.size, 2, none⟩ = some (.slice (some ⟨g, o, none⟩) (W * H) c) := (hb1.cell (p := ⟨w.heap.size, 2, none⟩) (by simp)).trans (by go_simp)
  have hlt2 : w.heap.size + 2 < w1.heap.size := (hown1.lt (w.heap.size + 2) rfl).2
  obtain ⟨w2, hw2⟩ : ∃ w2, w2 = w1.alloc (.cells #[.slice (some ⟨w.heap.size + 2, 0, none⟩) H H] 69) := ⟨_, rfl⟩
  have B2 : Below w1.heap.size w1 w2 := by rw [hw2]; exact new_below _ _
  have x0 : w2.cell? ⟨w1.heap.size, 0, none⟩ = some (.slice (some ⟨w.heap.size + 2, 0, none⟩) H H) := by rw [hw2]; go_simp
  have hs2 : w2.heap.size = w1.heap.size + 1 := by rw [hw2]; simp
  have O2 := below_owns hown1 B2
  have HO2 := Lib.hid O2
  have HB12 := Lib.hid (below_step B1 B2)
  have j0 := cell_later B2 k0
  have j1 := cell_later B2 k1
  have j2 := cell_later B2 k2
  have HX := Lib.hid x0
  have HJ := Lib.hid (And.intro j0 (And.intro j1 j2))
  have l0 : w.heap.size < w1.heap.size := by omega
  clear hgrow1 hb1 hown1 O2 B1 B2 x0 j0 j1 j2
  go_wp2_with fail
  rw [← hw2]
  clear hw2 k0 k1 k2
  refine (eachInk_any W H g o c 119 #[.pointer (some ⟨w1.heap.size, 0, none⟩)] z (fun y x wx => CountRel (w.heap.size + 2) w1.heap.size (rowsAt z W y x) H w2 wx) (fun b => b ≠ w.heap.size + 2) w2 ⟨by omega, by omega⟩ ⟨by omega, by omega⟩ (Go.Proofs.enters_of Try.func119 (by kernel_rfl) rfl) (fun j hj => cell_later HB12.out (HC.out j hj)) (by omega) (by omega) ?_ ?_ ?_ ?_).mono ?_
  · refine ⟨?_, (Below.refl _ _).alloc (by omega) _, cell_later (new_below _ _) HX.out⟩
    have := below_owns HO2.out (new_below w2 (.cells #[.int .i64 W, .int .i64 H, .slice (some ⟨g, o, none⟩) (W * H) c] 24))
    rw [numsOf_congr (f := fun _ => 0) (g := rowsAt z W 0 0) (fun j _ => by unfold rowsAt; rw [if_neg (by omega)]; split <;> simp [ink1, sumN])] at this
    exact this
  · exact fun y wx hy h => h.same fun i _ => rowsAt_row z W y i
  · exact fun y x wx hx hy hz h => h.same fun i _ => rowsAt_no z W y x i hz
  · intro y x wx hx hy hz h
    have hb9 : rowsAt z W y x y ≤ 1000000000 := by
      unfold rowsAt
      rw [if_neg (by omega), if_pos rfl]
      have := ink1_le z W 0 y x
      omega
    refine (rows1_any x y w1.heap.size (w.heap.size + 2) H _ wx hy (by omega) hb9 h.2.2 (h.get hy) (h.1.frozenAt y)).mono ?_
    rintro e w' ⟨rfl, rfl⟩
    refine ⟨rfl, h.store (by omega) hy ?_ ?_, fun b hb => Below.heap_setCell _ _ _ _ hb⟩
    · unfold rowsAt
      rw [if_neg (by omega), if_pos rfl, if_neg (by omega), if_pos rfl, ink1_succ, hz]; rfl
    · intro i hi hne
      unfold rowsAt
      by_cases e : i < y
      · rw [if_pos e, if_pos e]
      · rw [if_neg e, if_neg e, if_neg hne, if_neg hne]
  · rintro e w5 ⟨rfl, h5⟩
    have hc5 := h5.2.2
    have HO5 := Lib.hid (h5.same (g := fun y => inkB z W 0 y W 1) fun i hi => rowsAt_end z W H i hi)
    clear h5
    go_wp2_with fail
    go_ret2
    exact ⟨_, rfl, owns_base HO5.out.1 (by omega), HB12.out.trans (HO5.out.2.1.mono (by omega))⟩

end Go.Proofs.Ytcpgnfbjdokdcaa

namespace Go.Proofs.Ytcpgnfbjdokdcaa
open Go.RowKit
set_option linter.unusedSimpArgs false
set_option linter.unusedVariables false

theorem columns_badPage (a b : Int) (p : Option Addr) (n c : Nat) (w : World) (h : pageErr a b n ≠ 0) :
    Calls Try.prog 63 #[.agg #[.int .i64 a, .int .i64 b, .slice p n c]] w fun e w' => e = .returned (.tuple #[.slice none 0 0, .int .i64 (pageErr a b n)]) ∧ Below w.heap.size w w' := by
  have h' : (pageErr a b n != 0) = true := by simpa using h
  clear h
  go_enter Try.func63, Try.ntmps63
  go_wp2_with ((go_at_call 13; refine (checkBits_any _ _ _ _ _ _).mono ?_; rintro e w' ⟨rfl, rfl⟩))
  go_ret2
  exact ⟨rfl, below_alloc (new_below _ _) _⟩

set_option maxHeartbeats 1000000 in
set_option maxRecDepth 100000 in
theorem columns_ok (W H g o c : Nat) (z : Nat → Bool) (w : World) (hs : sizeErr W H = 0)
    (hp : ∀ j, j < W * H → w.cell? ⟨g, o + j, none⟩ = some (.bool (z j))) :
    Calls Try.prog 63 #[.agg #[.int .i64 W, .int .i64 H, .slice (some ⟨g, o, none⟩) (W * H) c]] w fun e w' =>
      ∃ v, e = .returned (.tuple #[v, .int .i64 0]) ∧ w'.ownsRow w.heap.size 3 1 v W (numsOf (fun x => inkB z W x 0 1 H) W) ∧ Below w.heap.size w w' := by
  obtain ⟨i0, hi, hz0, hz1, hz2⟩ := info_parts info_int
  have hmf : ∀ (fn : Fn) (first cap : Array Value) (w : World), (Instr.makeFunc fn first cap).run Try.prog w = .ok (.func fn first cap) w := fun _ _ _ _ => rfl
  obtain ⟨⟨a1, a2, a3, a4⟩, z0, z1⟩ := sizeErr_zero hs
  have hpe : pageErr W H (W * H) = 0 := by unfold pageErr; rw [if_pos hs, if_pos (by simp [Int.natCast_mul])]
  have hgw : g < w.heap.size := by
    have := World.block_lt_of_cell? _ _ (hp 0 (Nat.mul_pos (by omega) (by omega)))
    simpa using this
  have HC := Lib.hid hp
  clear hp hs z0 z1
  go_enter Try.func63, Try.ntmps63
  go_wp2_with (first | (go_at_call 13; refine (checkBits_any _ _ _ _ _ _).mono ?_; rintro e w' ⟨rfl, rfl⟩) | (at_make; refine wpList_make_full _ rfl _ _ 69 rfl (w.heap.size + 2) 3 i0 (.int .i64 0) 1 Try.underlying69 hi hz0 hz1 _ _ _ _ W rfl rfl rfl rfl (by rw [hz2]; omega) (by unfold maxLen; omega) (by simp) ?_))
  intro w1 hown1 hgrow1
  rw [toList_madeCells_one, numsOf_zero] at hown1
  have hb1 := (Below.refl (w.heap.size + 2) _).grown hgrow1 (by simp) (by simp)
  have B1 := (below_alloc (new_below w (.cells #[.int .i64 W, .int .i64 H, .slice (some ⟨g, o, none⟩) (W * H) c] 24)) (.cells #[.int .i64 W, .int .i64 H, .slice (some ⟨g, o, none⟩) (W * H) c] 24)).trans (hb1.mono (show w.heap.size ≤ w.heap.size + 2 by omega))
  have k0 : w1.cell? ⟨w.heap.size, 0, none⟩ = some (.int .i64 W) := (hb1.cell (p := ⟨w.heap.size, 0, none⟩) (by simp)).trans (by go_simp)
  have k1 : w1.cell? ⟨w.heap.size, 1, none⟩ = some (.int .i64 H) := (hb1.cell (p := ⟨w.heap.size, 1, none⟩) (by simp)).trans (by go_simp)
  have k2 : w1.cell? ⟨w.heap.size, 2, none⟩ = some (.slice (some ⟨g, o, none⟩) (W * H) c) := (hb1.cell (p := ⟨w.heap.size, 2, none⟩) (by simp)).trans (by go_simp)
  have hlt2 : w.heap.size + 2 < w1.heap.size := (hown1.lt (w.heap.size + 2) rfl).2
  obtain ⟨w2, hw2⟩ : ∃ w2, w2 = w1.alloc (.cells #[.slice (some ⟨w.heap.size + 2, 0, none⟩) W W] 69) := ⟨_, rfl⟩
  have B2 : Below w1.heap.size w1 w2 := by rw [hw2]; exact new_below _ _
  have x0 : w2.cell? ⟨w1.heap.size, 0, none⟩ = some (.slice (some ⟨w.heap.size + 2, 0, none⟩) W W) := by rw [hw2]; go_simp
  have hs2 : w2.heap.size = w1.heap.size + 1 := by rw [hw2]; simp
  have O2 := below_owns hown1 B2
  have HO2 := Lib.hid O2
  have HB12 := Lib.hid (below_step B1 B2)
  have j0 := cell_later B2 k0
  have j1 := cell_later B2 k1
  have j2 := cell_later B2 k2
  have HX := Lib.hid x0
  have HJ := Lib.hid (And.intro j0 (And.intro j1 j2))
  have l0 : w.heap.size < w1.heap.size := by omega
  clear hgrow1 hb1 hown1 O2 B1 B2 x0 j0 j1 j2
  go_wp2_with fail
  rw [← hw2]
  clear hw2 k0 k1 k2
  refine (eachInk_any W H g o c 120 #[.pointer (some ⟨w1.heap.size, 0, none⟩)] z (fun y x wx => CountRel (w.heap.size + 2) w1.heap.size (colsAt z W y x) W w2 wx) (fun b => b ≠ w.heap.size + 2) w2 ⟨by omega, by omega⟩ ⟨by omega, by omega⟩ (Go.Proofs.enters_of Try.func120 (by kernel_rfl) rfl) (fun j hj => cell_later HB12.out (HC.out j hj)) (by omega) (by omega) ?_ ?_ ?_ ?_).mono ?_
  · refine ⟨?_, (Below.refl _ _).alloc (by omega) _, cell_later (new_below _ _) HX.out⟩
    have := below_owns HO2.out (new_below w2 (.cells #[.int .i64 W, .int .i64 H, .slice (some ⟨g, o, none⟩) (W * H) c] 24))
    rw [numsOf_congr (f := fun _ => 0) (g := colsAt z W 0 0) (fun j _ => by unfold colsAt; rw [if_neg (by omega)]; rfl)] at this
    exact this
  · exact fun y wx hy h => h.same fun i hi => colsAt_row z W y i hi
  · exact fun y x wx hx hy hz h => h.same fun i _ => colsAt_no z W y x i hz
  · intro y x wx hx hy hz h
    have hb9 : colsAt z W y x x ≤ 1000000000 := by
      unfold colsAt
      rw [if_neg (by omega)]
      have := sumN_le (fun k => (z (k * W + x)).toNat) 1 (fun j => toNat_le _) y
      unfold colN
      omega
    refine (columns1_any x y w1.heap.size (w.heap.size + 2) W _ wx hx (by omega) hb9 h.2.2 (h.get hx) (h.1.frozenAt x)).mono ?_
    rintro e w' ⟨rfl, rfl⟩
    refine ⟨rfl, h.store (by omega) hx ?_ ?_, fun b hb => Below.heap_setCell _ _ _ _ hb⟩
    · unfold colsAt
      rw [if_pos (by omega), if_neg (by omega), colN, sumN, hz]; rfl
    · intro i hi hne
      unfold colsAt
      by_cases e : i < x
      · rw [if_pos e, if_pos (by omega)]
      · rw [if_neg e, if_neg (by omega)]
  · rintro e w5 ⟨rfl, h5⟩
    have hc5 := h5.2.2
    have HO5 := Lib.hid (h5.same (g := fun x => inkB z W x 0 1 H) fun i hi => colsAt_end z W H i)
    clear h5
    go_wp2_with fail
    go_ret2
    exact ⟨_, rfl, owns_base HO5.out.1 (by omega), HB12.out.trans (HO5.out.2.1.mono (by omega))⟩

/-- What a list of counts is, in memory: nothing with an error, else the counts. -/
def ListIs (E : Int) (f : Nat → Nat) (m B : Nat) (w : World) (sl : Option Addr) (n' c' : Nat) : Prop :=
  (E ≠ 0 ∧ sl = none ∧ n' = 0 ∧ c' = 0) ∨ (E = 0 ∧ n' = m ∧ ∃ g, B ≤ g ∧ sl = some ⟨g, 0, none⟩ ∧ ∀ k, k < m → w.cell? ⟨g, 0 + k, none⟩ = some (.int .i64 ((f k : Nat) : Int)))

theorem ListIs.later {E : Int} {f : Nat → Nat} {m B : Nat} {w w' : World} {sl : Option Addr} {n' c' : Nat} (h : ListIs E f m B w sl n' c') (hb : Below w.heap.size w w') : ListIs E f m B w' sl n' c' := by
  rcases h with h | ⟨h1, h2, g, h3, h4, h5⟩
  · exact .inl h
  · exact .inr ⟨h1, h2, g, h3, h4, fun k hk => cell_later hb (h5 k hk)⟩

theorem owns_nums {w : World} {base : Nat} {v : Value} {f : Nat → Nat} {m : Nat} (h : w.ownsRow base 3 1 v m (numsOf f m)) (hm : 1 ≤ m) :
    ∃ g c, v = .slice (some ⟨g, 0, none⟩) m c ∧ base ≤ g ∧ ∀ k, k < m → w.cell? ⟨g, 0 + k, none⟩ = some (.int .i64 ((f k : Nat) : Int)) := by
  rcases h.2 with ⟨_, h0⟩ | ⟨g, c, cur, rfl, hg, _⟩
  · omega
  · exact ⟨g, c, rfl, hg, fun k hk => by rw [Nat.zero_add, h.cellAt k (by omega), numsOf_get f m k hk]⟩

theorem rows_any (a b : Int) (s : Option Addr) (n c : Nat) (z : Nat → Bool) (w : World) (hs : IsBools w s n c z) :
    Calls Try.prog 62 #[.agg #[.int .i64 a, .int .i64 b, .slice s n c]] w fun e w' =>
      ∃ sl n' c', e = .returned (.tuple #[.slice sl n' c', .int .i64 (pageErr a b n)]) ∧ ListIs (pageErr a b n) (fun y => inkB z a.toNat 0 y a.toNat 1) b.toNat w.heap.size w' sl n' c' ∧ Below w.heap.size w w' := by
  by_cases h : pageErr a b n = 0
  · obtain ⟨W, H, rfl, rfl, hn, w1, w2, h1, h2, hN, he⟩ := page_nat h
    obtain ⟨g, o, rfl, hc⟩ := isBools_cells hs (by rw [hn]; exact Nat.mul_pos w1 h1)
    subst hn
    refine (rows_ok W H g o c z w he hc).mono ?_
    rintro e w' ⟨v, rfl, hown, hbel⟩
    obtain ⟨g', c', rfl, hg', hz⟩ := owns_nums hown h1
    exact ⟨some ⟨g', 0, none⟩, H, c', by rw [h], .inr ⟨h, by simp, g', hg', rfl, hz⟩, hbel⟩
  · refine (rows_badPage a b s n c w h).mono ?_
    rintro e w' ⟨rfl, hbel⟩
    exact ⟨none, 0, 0, rfl, .inl ⟨h, rfl, rfl, rfl⟩, hbel⟩

theorem columns_any (a b : Int) (s : Option Addr) (n c : Nat) (z : Nat → Bool) (w : World) (hs : IsBools w s n c z) :
    Calls Try.prog 63 #[.agg #[.int .i64 a, .int .i64 b, .slice s n c]] w fun e w' =>
      ∃ sl n' c', e = .returned (.tuple #[.slice sl n' c', .int .i64 (pageErr a b n)]) ∧ ListIs (pageErr a b n) (fun x => inkB z a.toNat x 0 1 b.toNat) a.toNat w.heap.size w' sl n' c' ∧ Below w.heap.size w w' := by
  by_cases h : pageErr a b n = 0
  · obtain ⟨W, H, rfl, rfl, hn, w1, w2, h1, h2, hN, he⟩ := page_nat h
    obtain ⟨g, o, rfl, hc⟩ := isBools_cells hs (by rw [hn]; exact Nat.mul_pos w1 h1)
    subst hn
    refine (columns_ok W H g o c z w he hc).mono ?_
    rintro e w' ⟨v, rfl, hown, hbel⟩
    obtain ⟨g', c', rfl, hg', hz⟩ := owns_nums hown w1
    exact ⟨some ⟨g', 0, none⟩, W, c', by rw [h], .inr ⟨h, by simp, g', hg', rfl, hz⟩, hbel⟩
  · refine (columns_badPage a b s n c w h).mono ?_
    rintro e w' ⟨rfl, hbel⟩
    exact ⟨none, 0, 0, rfl, .inl ⟨h, rfl, rfl, rfl⟩, hbel⟩

end Go.Proofs.Ytcpgnfbjdokdcaa
namespace Go.Proofs.Ytcpgnfbjdokdcaa
open Go.RowKit
set_option linter.unusedSimpArgs false
set_option linter.unusedVariables false

theorem ends1_any (n : Nat) (w : World) : Calls Try.prog 159 #[.int .i64 n] w fun e w' => e = .returned (.bool (decide (0 < n))) ∧ w = w' := by
  go_enter Try.func159, Try.ntmps159
  go_wp2
  go_ret
  exact ⟨ret_bool (by simp), rfl⟩

/-- The first place that is not 0, or -1. -/
def FirstIs (f : Nat → Nat) (n : Nat) (i : Int) : Prop := (i = -1 ∧ ∀ k, k < n → f k = 0) ∨ ∃ a : Nat, i = a ∧ a < n ∧ 0 < f a ∧ ∀ k, k < a → f k = 0

def EndInt (P : Int → Prop) (w : World) (e : Ending) (w' : World) : Prop := ∃ i : Int, P i ∧ e = .returned (.int .i64 i) ∧ w = w'

set_option maxHeartbeats 400000 in
theorem indexPos_any (g n c : Nat) (f : Nat → Nat) (w : World) (hn : n ≤ 100000) (hc : ∀ k, k < n → w.cell? ⟨g, 0 + k, none⟩ = some (.int .i64 ((f k : Nat) : Int))) :
    Calls Try.prog 158 #[.slice (some ⟨g, 0, none⟩) n c, .func (.func 159) #[] #[]] w (EndInt (FirstIs f n) w) := by
  have HC := Lib.hid hc
  clear hc
  go_enter Try.func158, Try.ntmps158
  go_wp2_with fail
  go_loop [8] (fun i => ∃ k : Nat, k ≤ n ∧ i = .int .i64 k ∧ Hid (∀ j, j < k → f j = 0)) (fun i => n - (intOf i).toNat)
  case atStart => exact ⟨0, Nat.zero_le _, rfl, Lib.hid (fun j hj => by omega)⟩
  case round =>
    obtain ⟨k, hk, rfl, H0⟩ := hrel
    by_cases hlt : k < n
    · have hx := HC.out k hlt
      rw [Nat.zero_add] at hx
      obtain ⟨v, hv⟩ : ∃ v, v = f k := ⟨_, rfl⟩
      rw [← hv] at hx
      have HV := Lib.hid hv
      have i1 : (k : Int) < (n : Int) := by omega
      clear hv
      by_cases hp : 0 < v
      · have hd : decide (0 < v) = true := by simpa using hp
        go_wp2_with (go_at_call 159; refine (ends1_any v _).mono ?_; rintro e w' ⟨rfl, rfl⟩)
        go_ret
        exact ⟨k, .inr ⟨k, rfl, hlt, by rw [← HV.out]; exact hp, H0.out⟩, rfl, rfl⟩
      · have hd : decide (0 < v) = false := by simpa using hp
        go_wp2_with (go_at_call 159; refine (ends1_any v _).mono ?_; rintro e w' ⟨rfl, rfl⟩)
        go_round
        case rel => exact ⟨k + 1, by omega, by go_num, Lib.hid fun j hj => by
          by_cases e : j = k
          · rw [e, ← HV.out]; omega
          · exact H0.out j (by omega)⟩
        case measure => simp [intOf]; omega
    · obtain rfl : k = n := by omega
      go_wp2_with fail
      go_ret
      exact ⟨-1, .inl ⟨rfl, H0.out⟩, rfl, rfl⟩

/-- The ends of a list. -/
def EndsIs (f : Nat → Nat) (n : Nat) (i j : Int) (q : Bool) : Prop :=
  (q = false ∧ i = 0 ∧ j = 0 ∧ ∀ k, k < n → f k = 0) ∨ (q = true ∧ ∃ a b : Nat, i = a ∧ j = b ∧ a < n ∧ b < n ∧ 0 < f a ∧ 0 < f b ∧ (∀ k, k < a → f k = 0) ∧ ∀ k, b < k → k < n → f k = 0)

def EndTwo (P : Int → Int → Bool → Prop) (w : World) (e : Ending) (w' : World) : Prop := ∃ (i j : Int) (q : Bool), P i j q ∧ e = .returned (.tuple #[.int .i64 i, .int .i64 j, .bool q]) ∧ w = w'

set_option maxHeartbeats 400000 in
theorem ends_any (g n c : Nat) (f : Nat → Nat) (w : World) (hn : n ≤ 100000) (hn1 : 1 ≤ n) (hc : ∀ k, k < n → w.cell? ⟨g, 0 + k, none⟩ = some (.int .i64 ((f k : Nat) : Int))) :
    Calls Try.prog 122 #[.slice (some ⟨g, 0, none⟩) n c] w (EndTwo (EndsIs f n) w) := by
  have HI := Lib.hid (indexPos_any g n c f w hn hc)
  have HC := Lib.hid hc
  clear hc
  go_enter Try.func122, Try.ntmps122
  go_wp2_with fail
  refine HI.out.mono ?_
  rintro e w' ⟨i, hi, rfl, rfl⟩
  rcases hi with ⟨rfl, h0⟩ | ⟨a, rfl, ha, hfa, hlo⟩
  · have H0 := Lib.hid h0
    clear h0
    go_wp2_with fail
    refine bodyPost_ret (v := .tuple #[.int .i64 0, .int .i64 0, .bool false]) (by simp [results, Try.results122, go_sem]) rfl ⟨0, 0, false, .inl ⟨rfl, rfl, rfl, H0.out⟩, rfl, rfl⟩
  · have HA := Lib.hid hfa
    have HL := Lib.hid hlo
    clear hfa hlo
    go_wp2_with fail
    go_loop [6] (fun i => ∃ k : Nat, a ≤ k ∧ k < n ∧ i = .int .i64 k ∧ Hid (∀ j, k < j → j < n → f j = 0)) (fun i => (intOf i).toNat)
    case atStart => exact ⟨n - 1, by omega, by omega, by rw [show ((n - 1 : Nat) : Int) = (n : Int) - 1 by omega], Lib.hid (fun j hj hj' => by omega)⟩
    case round =>
      obtain ⟨k, hk1, hk2, rfl, H0⟩ := hrel
      have hx := HC.out k hk2
      rw [Nat.zero_add] at hx
      obtain ⟨v, hv⟩ : ∃ v, v = f k := ⟨_, rfl⟩
      rw [← hv] at hx
      have HV := Lib.hid hv
      have i1 : (k : Int) < (n : Int) := by omega
      clear hv
      by_cases hp : v = 0
      · have hka : k ≠ a := by intro e; have := HA.out; rw [← e, ← HV.out] at this; omega
        subst hp
        go_wp2_with fail
        go_round
        case rel => exact ⟨k - 1, by omega, by omega, by rw [show ((k - 1 : Nat) : Int) = (k : Int) - 1 by omega], Lib.hid fun j hj hj' => by
          by_cases e : j = k
          · rw [e, ← HV.out]
          · exact H0.out j (by omega) hj'⟩
        case measure => simp [intOf]; omega
      · have hvb : ((v : Int) == 0) = false := by simpa using hp
        go_wp2_with fail
        refine bodyPost_ret (v := .tuple #[.int .i64 a, .int .i64 k, .bool true]) (by simp [results, Try.results122, go_sem]) rfl ⟨a, k, true, .inr ⟨rfl, a, k, rfl, rfl, ha, hk2, HA.out, by rw [← HV.out]; omega, HL.out, H0.out⟩, rfl, rfl⟩

end Go.Proofs.Ytcpgnfbjdokdcaa

namespace Go.Proofs.Ytcpgnfbjdokdcaa
open Go.RowKit
set_option linter.unusedSimpArgs false
set_option linter.unusedVariables false

/-- The least box that has all ink. -/
def Bound (z : Nat → Bool) (W H L T R B : Nat) : Prop :=
  (∀ i j, i < W → j < H → z (j * W + i) = true → (L ≤ i ∧ i ≤ R) ∧ T ≤ j ∧ j ≤ B) ∧ ((∃ j, j < H ∧ z (j * W + L) = true) ∧ L < W) ∧ ((∃ j, j < H ∧ z (j * W + R) = true) ∧ R < W) ∧ ((∃ i, i < W ∧ z (T * W + i) = true) ∧ T < H) ∧ ((∃ i, i < W ∧ z (B * W + i) = true) ∧ B < H)

theorem bound_uniq {z : Nat → Bool} {W H L T R B L' T' R' B' : Nat} (h : Bound z W H L T R B) (h' : Bound z W H L' T' R' B') : (L = L' ∧ T = T') ∧ R = R' ∧ B = B' := by
  obtain ⟨a, ⟨⟨j1, l1, m1⟩, n1⟩, ⟨⟨j2, l2, m2⟩, n2⟩, ⟨⟨i3, l3, m3⟩, n3⟩, ⟨i4, l4, m4⟩, n4⟩ := h
  obtain ⟨a', ⟨⟨j1', l1', m1'⟩, n1'⟩, ⟨⟨j2', l2', m2'⟩, n2'⟩, ⟨⟨i3', l3', m3'⟩, n3'⟩, ⟨i4', l4', m4'⟩, n4'⟩ := h'
  have e1 := a' _ _ n1 l1 m1
  have e2 := a' _ _ n2 l2 m2
  have e3 := a' _ _ l3 n3 m3
  have e4 := a' _ _ l4 n4 m4
  have f1 := a _ _ n1' l1' m1'
  have f2 := a _ _ n2' l2' m2'
  have f3 := a _ _ l3' n3' m3'
  have f4 := a _ _ l4' n4' m4'
  omega

theorem toNat_pos {b : Bool} (h : 0 < b.toNat) : b = true := by cases b <;> simp_all
theorem col_pos {z : Nat → Bool} {W H x : Nat} (h : 0 < inkB z W x 0 1 H) : ∃ j, j < H ∧ z (j * W + x) = true := by
  obtain ⟨j, hj, h1⟩ := sumN_pos h
  simp [ink1, sumN] at h1
  exact ⟨j, hj, toNat_pos h1⟩
theorem col_zero {z : Nat → Bool} {W H x j : Nat} (h : inkB z W x 0 1 H = 0) (hj : j < H) : z (j * W + x) = false := by
  have := sumN_ge (f := fun j => ink1 z W x (0 + j) 1) hj
  unfold inkB at h
  rw [h] at this
  simp [ink1, sumN] at this
  cases e : z (j * W + x) <;> simp_all
theorem row_pos {z : Nat → Bool} {W y : Nat} (h : 0 < inkB z W 0 y W 1) : ∃ i, i < W ∧ z (y * W + i) = true := by
  simp only [inkB, sumN, Nat.zero_add, Nat.add_zero] at h
  obtain ⟨i, hi, h1⟩ := sumN_pos h
  simp only [Nat.zero_add] at h1
  exact ⟨i, hi, toNat_pos h1⟩
theorem row_zero {z : Nat → Bool} {W y i : Nat} (h : inkB z W 0 y W 1 = 0) (hi : i < W) : z (y * W + i) = false := by
  simp only [inkB, sumN, Nat.zero_add, Nat.add_zero] at h
  have := sumN_ge (f := fun i => (z (y * W + (0 + i))).toNat) hi
  unfold ink1 at h
  rw [h] at this
  simp at this
  exact this

/-- The least box, as four numbers; whether there is one. -/
def BoxIs (z : Nat → Bool) (W H : Nat) (X Y bw bh : Int) (q : Bool) : Prop :=
  (q = false ∧ X = 0 ∧ Y = 0 ∧ bw = 0 ∧ bh = 0 ∧ ∀ i j, i < W → j < H → z (j * W + i) = false) ∨
  (q = true ∧ ∃ L T R B : Nat, X = L ∧ Y = T ∧ bw = (R : Int) - (L : Int) + 1 ∧ bh = (B : Int) - (T : Int) + 1 ∧ Bound z W H L T R B)

theorem box_uniq {z : Nat → Bool} {W H : Nat} {X Y bw bh X' Y' bw' bh' : Int} {q q' : Bool} (h : BoxIs z W H X Y bw bh q) (h' : BoxIs z W H X' Y' bw' bh' q') : X = X' ∧ Y = Y' ∧ bw = bw' ∧ bh = bh' ∧ q = q' := by
  rcases h with ⟨rfl, rfl, rfl, rfl, rfl, h0⟩ | ⟨rfl, L, T, R, B, rfl, rfl, rfl, rfl, hb⟩ <;> rcases h' with ⟨rfl, rfl, rfl, rfl, rfl, h0'⟩ | ⟨rfl, L', T', R', B', rfl, rfl, rfl, rfl, hb'⟩
  · exact ⟨rfl, rfl, rfl, rfl, rfl⟩
  · obtain ⟨⟨j, l, m⟩, n⟩ := hb'.2.1
    rw [h0 _ _ n l] at m; cases m
  · obtain ⟨⟨j, l, m⟩, n⟩ := hb.2.1
    rw [h0' _ _ n l] at m; cases m
  · obtain ⟨⟨rfl, rfl⟩, rfl, rfl⟩ := bound_uniq hb hb'
    exact ⟨rfl, rfl, rfl, rfl, rfl⟩

theorem box_of_ends {z : Nat → Bool} {W H : Nat} {i j k l : Int} {q : Bool} (h1 : EndsIs (fun x => inkB z W x 0 1 H) W i j true) (h2 : EndsIs (fun y => inkB z W 0 y W 1) H k l q) : BoxIs z W H i k (j - i + 1) (l - k + 1) true := by
  rcases h1 with ⟨h, _⟩ | ⟨_, a, b, rfl, rfl, ha, hb, pa, pb, la, lb⟩
  · cases h
  obtain ⟨jj, hj, hz⟩ := col_pos pa
  rcases h2 with ⟨_, _, _, h0⟩ | ⟨_, c, d, rfl, rfl, hc, hd, pc, pd, lc, ld⟩
  · have := row_zero (h0 jj hj) ha
    rw [hz] at this; cases this
  · refine .inr ⟨rfl, a, c, b, d, rfl, rfl, rfl, rfl, fun x y hx hy hzz => ?_, ⟨⟨jj, hj, hz⟩, ha⟩, ⟨col_pos pb, hb⟩, ⟨row_pos pc, hc⟩, row_pos pd, hd⟩
    refine ⟨⟨?_, ?_⟩, ?_, ?_⟩
    · refine Nat.le_of_not_lt fun e => ?_
      have := col_zero (la x e) hy
      rw [hzz] at this; cases this
    · refine Nat.le_of_not_lt fun e => ?_
      have := col_zero (lb x e hx) hy
      rw [hzz] at this; cases this
    · refine Nat.le_of_not_lt fun e => ?_
      have := row_zero (lc y e) hx
      rw [hzz] at this; cases this
    · refine Nat.le_of_not_lt fun e => ?_
      have := row_zero (ld y e hy) hx
      rw [hzz] at this; cases this

theorem box_none {z : Nat → Bool} {W H : Nat} {i j : Int} (h : EndsIs (fun x => inkB z W x 0 1 H) W i j false) : BoxIs z W H 0 0 0 0 false := by
  rcases h with ⟨_, _, _, h0⟩ | ⟨h, _⟩
  · exact .inl ⟨rfl, rfl, rfl, rfl, rfl, fun x y hx hy => col_zero (h0 x hx) hy⟩
  · cases h

theorem endsIs_bound {f : Nat → Nat} {n : Nat} {i j : Int} {q : Bool} (h : EndsIs f n i j q) : (0 ≤ i ∧ i ≤ n) ∧ 0 ≤ j ∧ j ≤ n := by
  rcases h with ⟨_, rfl, rfl, _⟩ | ⟨_, a, b, rfl, rfl, ha, hb, _⟩ <;> omega

theorem block4 {w : World} {b : Nat} {x y z u : Value} {t : TypeId} (h : w.heap[b]? = some (.cells #[x, y, z, u] t (0, 0))) :
    (w.cell? ⟨b, 0, none⟩ = some x ∧ w.cell? ⟨b, 1, none⟩ = some y ∧ w.cell? ⟨b, 2, none⟩ = some z ∧ w.cell? ⟨b, 3, none⟩ = some u) ∧ w.frozen? ⟨b, 0, none⟩ = false ∧ w.frozen? ⟨b, 1, none⟩ = false ∧ w.frozen? ⟨b, 2, none⟩ = false ∧ w.frozen? ⟨b, 3, none⟩ = false := by
  exact ⟨⟨by rw [cell_of_row w b 0 _ t (0, 0) h]; rfl, by rw [cell_of_row w b 1 _ t (0, 0) h]; rfl, by rw [cell_of_row w b 2 _ t (0, 0) h]; rfl, by rw [cell_of_row w b 3 _ t (0, 0) h]; rfl⟩, frozen_of_row w b 0 _ t h, frozen_of_row w b 1 _ t h, frozen_of_row w b 2 _ t h, frozen_of_row w b 3 _ t h⟩

set_option maxHeartbeats 1000000 in
set_option maxRecDepth 100000 in
theorem boundsOf_any (W H g o c : Nat) (z : Nat → Bool) (w : World) (hW : 1 ≤ W ∧ W ≤ 4000) (hH : 1 ≤ H ∧ H ≤ 4000)
    (hp : ∀ j, j < W * H → w.cell? ⟨g, o + j, none⟩ = some (.bool (z j))) :
    Calls Try.prog 68 #[.agg #[.int .i64 W, .int .i64 H, .slice (some ⟨g, o, none⟩) (W * H) c]] w fun e w' =>
      ∃ X Y bw bh q, e = .returned (.tuple #[.agg #[.int .i64 X, .int .i64 Y, .int .i64 bw, .int .i64 bh], .bool q]) ∧ BoxIs z W H X Y bw bh q ∧ Below w.heap.size w w' := by
  obtain ⟨w1, hw1⟩ : ∃ w1, w1 = (w.alloc (.cells #[.int .i64 W, .int .i64 H, .slice (some ⟨g, o, none⟩) (W * H) c] 24)).alloc (.cells #[.int .i64 0, .int .i64 0, .int .i64 0, .int .i64 0] 29) := ⟨_, rfl⟩
  have B1 : Below w.heap.size w w1 := by rw [hw1]; exact below_alloc (new_below _ _) _
  have q0 : w1.cell? ⟨w.heap.size, 0, none⟩ = some (.int .i64 W) := by rw [hw1]; go_simp
  have q1 : w1.cell? ⟨w.heap.size, 1, none⟩ = some (.int .i64 H) := by rw [hw1]; go_simp
  have q2 : w1.cell? ⟨w.heap.size, 2, none⟩ = some (.slice (some ⟨g, o, none⟩) (W * H) c) := by rw [hw1]; go_simp
  have qb : w1.heap[w.heap.size + 1]? = some (.cells #[.int .i64 0, .int .i64 0, .int .i64 0, .int .i64 0] 29 (0, 0)) := by
    rw [hw1]
    simpa using heap_alloc_new (w.alloc (.cells #[.int .i64 W, .int .i64 H, .slice (some ⟨g, o, none⟩) (W * H) c] 24)) (.cells #[.int .i64 0, .int .i64 0, .int .i64 0, .int .i64 0] 29)
  have HC := Lib.hid (fun j hj => cell_later B1 (hp j hj))
  have HB1 := Lib.hid B1
  have HQB := Lib.hid qb
  clear hp B1 qb
  go_enter Try.func68, Try.ntmps68
  go_upto_region 1 with fail
  rw [← hw1]
  clear hw1
  go_wp2_with fail
  refine (columnsOf_any W H g o c z w1 hW hH HC.out).mono ?_
  rintro e w2 ⟨v, rfl, hown, hb2⟩
  obtain ⟨g2, c2, rfl, hg2, hz2⟩ := owns_nums hown hW.1
  have HZ2 := Lib.hid hz2
  have HB2 := Lib.hid hb2
  have k0 := cell_later hb2 q0
  have k1 := cell_later hb2 q1
  have k2 := cell_later hb2 q2
  clear hown hz2 hb2 q0 q1 q2
  go_wp2_with fail
  refine (ends_any g2 W c2 (fun x => inkB z W x 0 1 H) w2 (by omega) hW.1 HZ2.out).mono ?_
  rintro e w' ⟨i, j, q, hi, rfl, rfl⟩
  have HI := Lib.hid hi
  have hbi := endsIs_bound hi
  obtain ⟨⟨bi0, bi1⟩, bj0, bj1⟩ := hbi
  clear hi
  have HBW := Lib.hid (below_step HB1.out HB2.out)
  have lb := (Array.getElem?_eq_some_iff.1 HQB.out).1
  cases q
  · obtain ⟨⟨j0, j1, j2, j3⟩, r0, r1, r2, r3⟩ := block4 (below_block HB2.out HQB.out)
    go_wp2_with fail
    refine bodyPost_ret (v := .tuple #[.agg #[.int .i64 0, .int .i64 0, .int .i64 0, .int .i64 0], .bool false]) (by simp [results, Try.results68, go_sem, j0, j1, j2, j3]) rfl ⟨0, 0, 0, 0, false, rfl, box_none HI.out, ?_⟩
    exact (((HBW.out.setCell (by simp) _).setCell (by simp) _).setCell (by simp) _).setCell (by simp) _
  · go_wp2_with fail
    refine (rowsOf_any W H g o c z w2 hW hH (fun j hj => cell_later HB2.out (HC.out j hj))).mono ?_
    rintro e w3 ⟨v, rfl, hown, hb3⟩
    obtain ⟨g3, c3, rfl, hg3, hz3⟩ := owns_nums hown hH.1
    have HZ3 := Lib.hid hz3
    have HB3 := Lib.hid hb3
    clear hown hz3 hb3 k0 k1 k2
    go_wp2_with fail
    refine (ends_any g3 H c3 (fun y => inkB z W 0 y W 1) w3 (by omega) hH.1 HZ3.out).mono ?_
    rintro e w' ⟨k, l, q, hk, rfl, rfl⟩
    have HK := Lib.hid hk
    have hbk := endsIs_bound hk
    obtain ⟨⟨bk0, bk1⟩, bl0, bl1⟩ := hbk
    clear hk
    obtain ⟨⟨j0, j1, j2, j3⟩, r0, r1, r2, r3⟩ := block4 (below_block HB3.out (below_block HB2.out HQB.out))
    go_wp2_with fail
    refine bodyPost_ret (v := .tuple #[.agg #[.int .i64 i, .int .i64 k, .int .i64 (j - i + 1), .int .i64 (l - k + 1)], .bool true]) (by simp [results, Try.results68, go_sem, j0, j1, j2, j3]) rfl ⟨_, _, _, _, true, rfl, box_of_ends HI.out HK.out, ?_⟩
    exact ((((below_step HBW.out HB3.out).setCell (by simp) _).setCell (by simp) _).setCell (by simp) _).setCell (by simp) _

end Go.Proofs.Ytcpgnfbjdokdcaa
