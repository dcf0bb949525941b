/-
  What leans_holds leans on: contracts of the functions that it calls.
-/
import Derived.Test.YtofcojcfcpfdmaaRows
import Derived.WalkKit
import Derived.WalkSpells
import Derived.WalkLawsBesides
import Derived.Lib.Hide
import Derived.Deep.RegionHeld3
import Derived.Shelf.Abstract
import Derived.Deep.AppendLies
import Derived.Deep.DrawnRows
import Derived.Deep.RegionLaw
import Derived.Deep.QuietTactic
import Derived.BigQuiet
import Derived.ProofKit
import Derived.OpenShut
import Derived.ShutString
import Derived.ChangeOld
import Derived.Lib.SmallJoins
import Derived.Deep.Grids
import Derived.Deep.DeepCutAuto
import Derived.Lib.MinMax
import Derived.Deep.CutRange
import Derived.Laws.EntriesVeiled
import Derived.StillTailTactics
import Derived.RegionTactic
import Derived.ChangeAlike
import Derived.BigRegion
import Derived.Test.YtofcojcfcpfdmaaCLeans1
namespace Go.Proofs.Ytofcojcfcpfdmaa
open Go.RowKit
set_option linter.unusedSimpArgs false
set_option linter.unusedVariables false

/-- A list of numbers in memory. -/
def intsOf (f : Nat → Int) (n : Nat) : List Value := (List.range n).map fun k => Value.int .i64 (f k)
theorem intsOf_get (f : Nat → Int) (n k : Nat) (h : k < n) : (intsOf f n)[k]? = some (.int .i64 (f k)) := by simp [intsOf, List.getElem?_range h]
theorem intsOf_length (f : Nat → Int) (n : Nat) : (intsOf f n).length = n := by simp [intsOf]
theorem intsOf_set {f g : Nat → Int} {n j : Nat} {v : Int} (hj : j < n) (hv : g j = v) (h : ∀ i, i < n → i ≠ j → g i = f i) : (intsOf f n).set j (.int .i64 v) = intsOf g n := by
  apply List.ext_getElem?
  intro k
  rw [List.getElem?_set]
  by_cases e : j = k
  · subst e
    rw [if_pos rfl, intsOf_length, if_pos hj, intsOf_get g n j hj, hv]
  · rw [if_neg e]
    by_cases hk : k < n
    · rw [intsOf_get f n k hk, intsOf_get g n k hk, h k hk (fun e' => e e'.symm)]
    · rw [List.getElem?_eq_none (by rw [intsOf_length]; omega), List.getElem?_eq_none (by rw [intsOf_length]; omega)]
theorem intsOf_zero (n : Nat) : List.replicate n (Value.int .i64 0) = intsOf (fun _ => 0) n := by
  apply List.ext_getElem?
  intro k
  by_cases hk : k < n
  · rw [intsOf_get _ n k hk]; simp [hk]
  · rw [List.getElem?_eq_none (by simp; omega), List.getElem?_eq_none (by rw [intsOf_length]; omega)]
theorem intsOf_congr {f g : Nat → Int} {n : Nat} (h : ∀ j, j < n → f j = g j) : intsOf f n = intsOf g n := by
  apply List.ext_getElem?
  intro k
  by_cases hk : k < n
  · rw [intsOf_get f n k hk, intsOf_get g n k hk, h k hk]
  · rw [List.getElem?_eq_none (by rw [intsOf_length]; omega), List.getElem?_eq_none (by rw [intsOf_length]; omega)]

/-- By how much a column goes. -/
def fallV (L : Nat) (n : Int) (x : Nat) : Int := shiftV (n * ((x : Int) - (((L - 1) / 2 : Nat) : Int)))

theorem fall_prod {L x : Nat} {n : Int} (hL : L ≤ 4000) (hn : -256 ≤ n ∧ n ≤ 256) (hx : x < L) : -1100000 ≤ n * ((x : Int) - (((L - 1) / 2 : Nat) : Int)) ∧ n * ((x : Int) - (((L - 1) / 2 : Nat) : Int)) ≤ 1100000 := by
  obtain ⟨d, hd⟩ : ∃ d, d = (x : Int) - (((L - 1) / 2 : Nat) : Int) := ⟨_, rfl⟩
  rw [← hd]
  have h1 : -4000 ≤ d ∧ d ≤ 4000 := by omega
  have h2 : (n * d).natAbs ≤ 256 * 4000 := by rw [Int.natAbs_mul]; exact Nat.mul_le_mul (by omega) (by omega)
  omega
theorem fallV_bounds {L x : Nat} {n : Int} (hL : L ≤ 4000) (hn : -256 ≤ n ∧ n ≤ 256) (hx : x < L) : -1100 ≤ fallV L n x ∧ fallV L n x ≤ 1100 := shiftV_bounds (fall_prod hL hn hx)
set_option maxHeartbeats 800000 in
theorem shifts_any (L : Nat) (n : Int) (w : World) (hL : 1 ≤ L ∧ L ≤ 4000) (hn : -256 ≤ n ∧ n ≤ 256) :
    Calls Try.prog 73 #[.int .i64 L, .int .i64 n] w fun e w' => ∃ v, e = .returned v ∧ w'.ownsRow w.heap.size 3 1 v L (intsOf (fallV L n) L) ∧ Below w.heap.size w w' := by
  obtain ⟨i0, hi, hz0, hz1, hz2⟩ := info_parts info_int
  obtain ⟨m, hm⟩ : ∃ m, m = (L - 1) / 2 := ⟨_, rfl⟩
  have e1 : ((L : Int) - 1) / 2 = (m : Int) := by omega
  have hm2 : m ≤ 4000 := by omega
  have HM := Lib.hid hm
  have HN := Lib.hid hn
  obtain ⟨n1, n2⟩ := hn
  clear hm
  go_enter Try.func73, Try.ntmps73
  go_wp2_with (at_make; refine wpList_make_full _ rfl _ _ 52 rfl w.heap.size 3 i0 (.int .i64 0) 1 Try.underlying52 hi hz0 hz1 _ _ _ _ L rfl rfl rfl rfl (by rw [hz2]; omega) (by unfold maxLen; omega) (by simp) ?_)
  intro w1 hown1 hgrow1
  rw [toList_madeCells_one, intsOf_zero] at hown1
  have hb1 := (Below.refl w.heap.size _).grown hgrow1 (by simp) (by simp)
  have HST := Lib.hid (show w1.ownsRow w.heap.size 3 1 (.slice (some ⟨w.heap.size, 0, none⟩) L L) L (intsOf (fun j => if j < 0 then fallV L n j else 0) L) ∧ Below w.heap.size w w1 from ⟨by rw [intsOf_congr (g := fun _ => 0) (fun j _ => if_neg (by omega))]; exact hown1, hb1⟩)
  clear hgrow1 hb1 hown1
  go_wp2_with fail
  go_loopw [15] (fun i wr => ∃ j : Nat, j ≤ L ∧ i = .int .i64 j ∧ Hid (wr.ownsRow w.heap.size 3 1 (.slice (some ⟨w.heap.size, 0, none⟩) L L) L (intsOf (fun k => if k < j then fallV L n k else 0) L) ∧ Below w.heap.size w wr)) (fun i _ => L - (intOf i).toNat)
  case atStart => exact ⟨0, Nat.zero_le _, rfl, HST⟩
  case round =>
    obtain ⟨j, hj, rfl, HR⟩ := hrel
    by_cases hlt : j < L
    · have hcell := HR.out.1.cellAt j (by omega)
      rw [intsOf_get _ _ _ hlt, if_neg (by omega)] at hcell
      have hfz := HR.out.1.frozenAt j
      have hpr := fall_prod hL.2 HN.out hlt
      rw [← HM.out] at hpr
      obtain ⟨p, hp⟩ : ∃ p, p = n * ((j : Int) - (m : Int)) := ⟨_, rfl⟩
      rw [← hp] at hpr
      have hp' : n * ((j : Int) - (m : Int)) = p := hp.symm
      obtain ⟨p1, p2⟩ := hpr
      have i1 : (j : Int) < (L : Int) := by omega
      have HP := Lib.hid hp
      clear hp
      go_wp2_with fail
      refine (shift_any p _ ⟨p1, p2⟩).mono ?_
      rintro e wq ⟨rfl, rfl⟩
      obtain ⟨s, hs⟩ : ∃ s, s = shiftV p := ⟨_, rfl⟩
      have hsf : fallV L n j = s := by rw [hs]; unfold fallV; rw [HP.out, ← HM.out]
      rw [← hs]
      have HS := Lib.hid hsf
      clear hs hsf
      go_wp2_with fail
      go_roundw
      case rel =>
        refine ⟨j + 1, by omega, by go_num, Lib.hid ⟨?_, HR.out.2.setCell (by simp) _⟩⟩
        have h := (HR.out.1.stored j (.int .i64 s)).1
        rw [intsOf_set (g := fun k => if k < j + 1 then fallV L n k else 0) hlt (by rw [if_pos (by omega)]; exact HS.out) (fun i _ hne => by
          by_cases h1 : i < j
          · rw [if_pos (by omega), if_pos h1]
          · rw [if_neg (by omega), if_neg h1])] at h
        exact h
      case measure => simp [intOf]; omega
    · obtain rfl : j = L := by omega
      go_wp2_with fail
      go_ret
      refine ⟨_, rfl, ?_, HR.out.2⟩
      have h := HR.out.1
      rw [intsOf_congr (g := fallV j n) (fun k hk => if_pos hk)] at h
      exact h

end Go.Proofs.Ytofcojcfcpfdmaa
namespace Go.Proofs.Ytofcojcfcpfdmaa
open Go.RowKit
set_option linter.unusedSimpArgs false
set_option linter.unusedVariables false

theorem inkAtS_in (W H g o c x y : Nat) (q : Bool) (w : World) (hW : W ≤ 4000) (hH : H ≤ 4000) (hx : x < W) (hy : y < H) (hc : w.cell? ⟨g, o + (y * W + x), none⟩ = some (.bool q)) :
    Calls Try.prog 76 #[.agg #[.int .i64 W, .int .i64 H, .slice (some ⟨g, o, none⟩) (W * H) c], .int .i64 x, .int .i64 y] w fun e w' => e = .returned (.bool q) ∧ Below w.heap.size w w' := by
  have hcl := World.block_lt_of_cell? _ _ hc
  simp only at hcl
  have m0 : (0 : Int) ≤ (y : Int) * (W : Int) := Int.mul_nonneg (by omega) (by omega)
  have hfit := row_fits hy (show x + 1 ≤ W by omega)
  have m2 : (y : Int) * (W : Int) + (x : Int) < ((W * H : Nat) : Int) := by rw [← Int.natCast_mul]; omega
  have hN := Nat.mul_le_mul hW hH
  have m1 : (y : Int) * (W : Int) + (x : Int) < (W : Int) * (H : Int) := by rw [← Int.natCast_mul, ← Int.natCast_mul]; omega
  have m3 : (W : Int) * (H : Int) ≤ 100000000 := by rw [← Int.natCast_mul]; omega
  clear hfit hN
  go_enter Try.func76, Try.ntmps76
  go_wp2_with (first | (go_at_call 56; refine (outsideS_no _ _ _ _ (by omega)).mono ?_; rintro e w' ⟨rfl, rfl⟩))
  go_ret
  exact ⟨rfl, new_below _ _⟩

theorem inkAtS_out (W H g o n c : Nat) (x y : Int) (s : Option Addr) (w : World) (hW : W ≤ 4000) (hH : H ≤ 4000) (h : ¬ ((0 ≤ x ∧ x ≤ (W : Int) - 1) ∧ (0 ≤ y ∧ y ≤ (H : Int) - 1))) :
    Calls Try.prog 76 #[.agg #[.int .i64 W, .int .i64 H, .slice s n c], .int .i64 x, .int .i64 y] w fun e w' => e = .returned (.bool false) ∧ Below w.heap.size w w' := by
  by_cases hx : 0 ≤ x ∧ x ≤ (W : Int) - 1
  · have HY := Lib.hid (show ¬ (0 ≤ y ∧ y ≤ (H : Int) - 1) from fun k => h ⟨hx, k⟩)
    have HX := Lib.hid hx
    clear h hx
    go_enter Try.func76, Try.ntmps76
    go_wp2_with (first | (go_at_call 56; refine (outsideS_yes _ _ _ _ (by have := HY.out; omega)).mono ?_; rintro e w' ⟨rfl, rfl⟩) | (go_at_call 56; refine (outsideS_no _ _ _ _ (by have := HX.out; omega)).mono ?_; rintro e w' ⟨rfl, rfl⟩))
    go_ret
    exact ⟨rfl, new_below _ _⟩
  · have HX := Lib.hid hx
    clear h hx
    go_enter Try.func76, Try.ntmps76
    go_wp2_with (first | (go_at_call 56; refine (outsideS_yes _ _ _ _ (by have := HX.out; omega)).mono ?_; rintro e w' ⟨rfl, rfl⟩))
    go_ret
    exact ⟨rfl, new_below _ _⟩

/-- The error of how far a page leans. -/
def leanErr (n low : Int) : Int := if low ≤ n ∧ n ≤ 256 then 0 else 3

theorem atB_in {W H : Nat} {z : Nat → Bool} {x y : Nat} (hx : x < W) (hy : y < H) : atB W H z (x : Int) (y : Int) = z (y * W + x) := by
  unfold atB; rw [if_pos ⟨by omega, by omega⟩, Int.toNat_natCast, Int.toNat_natCast]

theorem inkAtS_any (W H g o c : Nat) (x y : Int) (z : Nat → Bool) (w : World) (hW : W ≤ 4000) (hH : H ≤ 4000) (hc : ∀ j, j < W * H → w.cell? ⟨g, o + j, none⟩ = some (.bool (z j))) :
    Calls Try.prog 76 #[.agg #[.int .i64 W, .int .i64 H, .slice (some ⟨g, o, none⟩) (W * H) c], .int .i64 x, .int .i64 y] w fun e w' => e = .returned (.bool (atB W H z x y)) ∧ Below w.heap.size w w' := by
  by_cases h : (0 ≤ x ∧ x ≤ (W : Int) - 1) ∧ (0 ≤ y ∧ y ≤ (H : Int) - 1)
  · obtain ⟨X, rfl⟩ : ∃ X : Nat, x = (X : Int) := ⟨x.toNat, by omega⟩
    obtain ⟨Y, rfl⟩ : ∃ Y : Nat, y = (Y : Int) := ⟨y.toNat, by omega⟩
    rw [atB_in (by omega) (by omega)]
    have hfit := row_fits (show Y < H by omega) (show X + 1 ≤ W by omega)
    exact inkAtS_in W H g o c X Y _ w hW hH (by omega) (by omega) (hc _ (by omega))
  · have e : atB W H z x y = false := by unfold atB; rw [if_neg h]
    rw [e]
    exact inkAtS_out W H g o (W * H) c x y _ w hW hH h
theorem atR_any (W H g o c : Nat) (x y : Int) (z : Nat → Bool) (w : World) (hW : W ≤ 4000) (hH : H ≤ 4000) (hc : ∀ j, j < W * H → w.cell? ⟨g, o + j, none⟩ = some (.bool (z j))) :
    Calls Try.prog 86 #[.agg #[.int .i64 W, .int .i64 H, .slice (some ⟨g, o, none⟩) (W * H) c], .int .i64 x, .int .i64 y] w fun e w' => e = .returned (.bool (atB W H z x y)) ∧ Below w.heap.size w w' := by
  by_cases h : (0 ≤ x ∧ x ≤ (W : Int) - 1) ∧ (0 ≤ y ∧ y ≤ (H : Int) - 1)
  · obtain ⟨X, rfl⟩ : ∃ X : Nat, x = (X : Int) := ⟨x.toNat, by omega⟩
    obtain ⟨Y, rfl⟩ : ∃ Y : Nat, y = (Y : Int) := ⟨y.toNat, by omega⟩
    rw [atB_in (by omega) (by omega)]
    have hfit := row_fits (show Y < H by omega) (show X + 1 ≤ W by omega)
    exact at_in W H g o c X Y _ w (by omega) (by omega) (by omega) (by omega) (hc _ (by omega))
  · have e : atB W H z x y = false := by unfold atB; rw [if_neg h]
    rw [e]
    exact at_out W H g o (W * H) c x y _ w (by omega) (by omega) h

set_option maxHeartbeats 400000 in
theorem lean1_any (W H gb lb g o c sg sc x y : Nat) (f : Nat → Int) (z : Nat → Bool) (w : World) (hW : W ≤ 4000) (hH : H ≤ 4000) (hx : x < W) (hy : y < H) (hf : -1100 ≤ f x ∧ f x ≤ 1100)
    (h0 : w.cell? ⟨gb, 0, none⟩ = some (.int .i64 W)) (h1 : w.cell? ⟨gb, 1, none⟩ = some (.int .i64 H)) (h2 : w.cell? ⟨gb, 2, none⟩ = some (.slice (some ⟨g, o, none⟩) (W * H) c)) (h3 : w.cell? ⟨lb, 0, none⟩ = some (.slice (some ⟨sg, 0, none⟩) W sc))
    (h4 : w.cell? ⟨sg, x, none⟩ = some (.int .i64 (f x))) (hc : ∀ j, j < W * H → w.cell? ⟨g, o + j, none⟩ = some (.bool (z j))) :
    Calls Try.prog 75 #[.int .i64 x, .int .i64 y, .pointer (some ⟨gb, 0, none⟩), .pointer (some ⟨lb, 0, none⟩)] w fun e w' => e = .returned (.bool (atB W H z (x : Int) ((y : Int) - f x))) ∧ Below w.heap.size w w' := by
  obtain ⟨s, hs⟩ : ∃ s, s = f x := ⟨_, rfl⟩
  rw [← hs] at hf h4 ⊢
  obtain ⟨s1, s2⟩ := hf
  have i1 : (x : Int) < (W : Int) := by omega
  have i0 : (0 : Int) ≤ (x : Int) := by omega
  have HI := Lib.hid (inkAtS_any W H g o c (x : Int) ((y : Int) - s) z w.drew hW hH (fun j hj => cell_later (Below.refl _ _).drew (hc j hj)))
  have e1 : IntKind.i64.wrap ((y : Int) - s) = (y : Int) - s := IntWalk.i64_in _ (by omega)
  clear hs hc
  go_enter Try.func75, Try.ntmps75
  go_wp2_with fail
  go_region_held3 (fun w' => w'.cell? ⟨gb, 0, none⟩ = some (.int .i64 W) ∧ w'.cell? ⟨gb, 1, none⟩ = some (.int .i64 H) ∧ w'.cell? ⟨gb, 2, none⟩ = some (.slice (some ⟨g, o, none⟩) (W * H) c) ∧ w'.cell? ⟨lb, 0, none⟩ = some (.slice (some ⟨sg, 0, none⟩) W sc) ∧ w'.cell? ⟨sg, x, none⟩ = some (.int .i64 s))
    (first | (go_keep; done) | (go_split_ands; exact ⟨cell_later hb5 (by assumption), cell_later hb5 (by assumption), cell_later hb5 (by assumption), cell_later hb5 (by assumption), cell_later hb5 (by assumption)⟩))
    ((first | (go_at_call 76; ((with_reducible refine HI.out.mono ?_); rintro e w5 ⟨rfl, hb5⟩))))
  go_wp2_with fail
  go_ret
  exact ⟨rfl, below_step (Below.refl _ _).drew hb5⟩

set_option maxHeartbeats 400000 in
theorem slant1_any (W H gb lb g o c sg sc x y : Nat) (f : Nat → Int) (z : Nat → Bool) (w : World) (hW : W ≤ 4000) (hH : H ≤ 4000) (hx : x < W) (hy : y < H) (hf : -1100 ≤ f y ∧ f y ≤ 1100)
    (h0 : w.cell? ⟨gb, 0, none⟩ = some (.int .i64 W)) (h1 : w.cell? ⟨gb, 1, none⟩ = some (.int .i64 H)) (h2 : w.cell? ⟨gb, 2, none⟩ = some (.slice (some ⟨g, o, none⟩) (W * H) c)) (h3 : w.cell? ⟨lb, 0, none⟩ = some (.slice (some ⟨sg, 0, none⟩) H sc))
    (h4 : w.cell? ⟨sg, y, none⟩ = some (.int .i64 (f y))) (hc : ∀ j, j < W * H → w.cell? ⟨g, o + j, none⟩ = some (.bool (z j))) :
    Calls Try.prog 82 #[.int .i64 x, .int .i64 y, .pointer (some ⟨gb, 0, none⟩), .pointer (some ⟨lb, 0, none⟩)] w fun e w' => e = .returned (.bool (atB W H z ((x : Int) - f y) (y : Int))) ∧ Below w.heap.size w w' := by
  obtain ⟨s, hs⟩ : ∃ s, s = f y := ⟨_, rfl⟩
  rw [← hs] at hf h4 ⊢
  obtain ⟨s1, s2⟩ := hf
  have i1 : (y : Int) < (H : Int) := by omega
  have i0 : (0 : Int) ≤ (y : Int) := by omega
  have HI := Lib.hid (inkAtS_any W H g o c ((x : Int) - s) (y : Int) z w.drew hW hH (fun j hj => cell_later (Below.refl _ _).drew (hc j hj)))
  have e1 : IntKind.i64.wrap ((x : Int) - s) = (x : Int) - s := IntWalk.i64_in _ (by omega)
  clear hs hc
  go_enter Try.func82, Try.ntmps82
  go_wp2_with fail
  go_region_held3 (fun w' => w'.cell? ⟨gb, 0, none⟩ = some (.int .i64 W) ∧ w'.cell? ⟨gb, 1, none⟩ = some (.int .i64 H) ∧ w'.cell? ⟨gb, 2, none⟩ = some (.slice (some ⟨g, o, none⟩) (W * H) c) ∧ w'.cell? ⟨lb, 0, none⟩ = some (.slice (some ⟨sg, 0, none⟩) H sc) ∧ w'.cell? ⟨sg, y, none⟩ = some (.int .i64 s))
    (first | (go_keep; done) | (go_split_ands; exact ⟨cell_later hb5 (by assumption), cell_later hb5 (by assumption), cell_later hb5 (by assumption), cell_later hb5 (by assumption), cell_later hb5 (by assumption)⟩))
    ((first | (go_at_call 76; ((with_reducible refine HI.out.mono ?_); rintro e w5 ⟨rfl, hb5⟩))))
  go_wp2_with fail
  go_ret
  exact ⟨rfl, below_step (Below.refl _ _).drew hb5⟩

theorem checkLean_any (a b n : Int) (p : Option Addr) (k c : Nat) (w : World) :
    Calls Try.prog 72 #[.agg #[.int .i64 a, .int .i64 b, .slice p k c], .int .i64 n] w fun e w' => e = .returned (.int .i64 (orI (pageErr a b k) (leanErr n (-256)))) ∧ Below w.heap.size w w' := by
  by_cases hp : pageErr a b k = 0
  · have t1 : (pageErr a b k != 0) = false := by simpa using hp
    by_cases hn : -256 ≤ n ∧ n ≤ 256
    · have H1 := Lib.hid hn
      have e : orI (pageErr a b k) (leanErr n (-256)) = 0 := by unfold orI leanErr; rw [if_pos hp, if_pos hn]
      rw [e]
      clear hn e hp
      go_enter Try.func72, Try.ntmps72
      go_wp2_with (first | (go_at_call 25; refine (checkBits_any _ _ _ _ _ _).mono ?_; rintro e w' ⟨rfl, rfl⟩) | (go_at_call 56; refine (outsideS_no _ _ _ _ H1.out).mono ?_; rintro e w' ⟨rfl, rfl⟩))
      go_ret
      exact ⟨rfl, below_alloc (new_below _ _) _⟩
    · have H1 := Lib.hid hn
      have e : orI (pageErr a b k) (leanErr n (-256)) = 3 := by unfold orI leanErr; rw [if_pos hp, if_neg hn]
      rw [e]
      clear hn e hp
      go_enter Try.func72, Try.ntmps72
      go_wp2_with (first | (go_at_call 25; refine (checkBits_any _ _ _ _ _ _).mono ?_; rintro e w' ⟨rfl, rfl⟩) | (go_at_call 56; refine (outsideS_yes _ _ _ _ H1.out).mono ?_; rintro e w' ⟨rfl, rfl⟩))
      go_ret
      exact ⟨rfl, below_alloc (new_below _ _) _⟩
  · have t1 : (pageErr a b k != 0) = true := by simpa using hp
    have e : orI (pageErr a b k) (leanErr n (-256)) = pageErr a b k := by unfold orI; rw [if_neg hp]
    rw [e]
    clear e hp
    go_enter Try.func72, Try.ntmps72
    go_wp2_with (first | (go_at_call 25; refine (checkBits_any _ _ _ _ _ _).mono ?_; rintro e w' ⟨rfl, rfl⟩))
    go_ret
    exact ⟨rfl, below_alloc (new_below _ _) _⟩

set_option maxHeartbeats 800000 in
theorem moved_any (W H g o n c clo : Nat) (capt : Array Value) (f : Nat → Nat → Bool) (w : World) (hW : 1 ≤ W ∧ W ≤ 4000) (hH : 1 ≤ H ∧ H ≤ 4000) (hN : W * H ≤ 1048576)
    (eg : ∀ (args : Array Value) (W : World), (callFunc clo args).run Try.prog W = .ok (.enter clo args) W)
    (hc : ∀ (x y : Nat) (wx : World), x < W → y < H → Below w.heap.size w wx → Calls Try.prog clo (#[.int .i64 x, .int .i64 y] ++ capt) wx fun e W' => e = .returned (.bool (f x y)) ∧ Below wx.heap.size wx W') :
    Calls Try.prog 74 #[.agg #[.int .i64 W, .int .i64 H, .slice (some ⟨g, o, none⟩) n c], .func (.func clo) #[] capt] w fun e w' =>
      ∃ v, e = .returned (.agg #[.int .i64 W, .int .i64 H, v]) ∧ w'.ownsRow w.heap.size 4 1 v (W * H) ((places W f (W * H)).map Value.bool) ∧ Below w.heap.size w w' := by
  have HC := Lib.hid hc
  have EG := Lib.hid eg
  clear hc eg
  go_enter Try.func74, Try.ntmps74
  go_wp2_with fail
  obtain ⟨w1, hw1⟩ : ∃ w1, w1 = (w.alloc (.cells #[.int .i64 W, .int .i64 H, .slice (some ⟨g, o, none⟩) n c] 40)).alloc (.cells #[.int .i64 0, .int .i64 0, .slice none 0 0] 40) := ⟨_, rfl⟩
  have B1 : Below w.heap.size w w1 := by rw [hw1]; exact below_alloc (new_below _ _) _
  have q0 : w1.cell? ⟨w.heap.size, 0, none⟩ = some (.int .i64 W) := by rw [hw1]; go_simp
  have q1 : w1.cell? ⟨w.heap.size, 1, none⟩ = some (.int .i64 H) := by rw [hw1]; go_simp
  have qb : w1.heap[w.heap.size + 1]? = some (.cells #[.int .i64 0, .int .i64 0, .slice none 0 0] 40 (0, 0)) := by
    rw [hw1]; simpa using heap_alloc_new (w.alloc (.cells #[.int .i64 W, .int .i64 H, .slice (some ⟨g, o, none⟩) n c] 40)) (.cells #[.int .i64 0, .int .i64 0, .slice none 0 0] 40)
  rw [← hw1]
  clear hw1
  have lt3 := Lib.hid (Array.getElem?_eq_some_iff.1 qb).1
  have ne1 := Lib.hid (show w.heap.size ≠ w.heap.size + 1 by omega)
  have HW := Lib.hid (fillBool_any W H clo capt f w1.drew (by omega) (by omega) (by omega) (by omega) EG.out (fun x y wx hx hy hbx => HC.out x y wx hx hy (below_step B1.drew hbx)))
  go_region_held3 (fun w' => w'.cell? ⟨w.heap.size, 0, none⟩ = some (.int .i64 W) ∧ w'.cell? ⟨w.heap.size, 1, none⟩ = some (.int .i64 H))
    (first | (go_keep; done) | (go_split_ands; exact ⟨cell_later hb5 (by assumption), cell_later hb5 (by assumption)⟩) | (go_split_ands; exact ⟨cell_far3 ne1.out (by assumption), cell_far3 ne1.out (by assumption)⟩))
    ((first | (go_at_call 114; ((with_reducible refine HW.out.mono ?_); rintro e w5 ⟨v, rfl, hown5, hb5⟩; have hq5 := block3 (below_block (below_step (Below.refl _ _).drew hb5) qb); obtain ⟨j0, j1, j2, r0, r1, r2⟩ := hq5; have vs : ∃ a n c, v = .slice a n c := owns_shape hown5; obtain ⟨va, vn, vc, hv⟩ := vs; subst hv))))
  go_wp2_with fail
  refine bodyPost_ret (v := .agg #[.int .i64 W, .int .i64 H, .slice va vn vc]) (by simp [results, Try.results74, go_sem, j0, j1, j2]) rfl ⟨_, rfl, ?_, ?_⟩
  · exact owns_far3 hown5 lt3.out B1.size
  · exact below_far3 (below_step B1.drew hb5) (by omega)

end Go.Proofs.Ytofcojcfcpfdmaa
namespace Go.Proofs.Ytofcojcfcpfdmaa
open Go.RowKit
set_option linter.unusedSimpArgs false
set_option linter.unusedVariables false

theorem fallR_any (W H x : Nat) (n : Int) (s : Option Addr) (k c : Nat) (w : World) (hW : 1 ≤ W ∧ W ≤ 4000) (hn : -256 ≤ n ∧ n ≤ 256) (hx : x < W) :
    Calls Try.prog 85 #[.agg #[.int .i64 W, .int .i64 H, .slice s k c], .int .i64 n, .int .i64 x] w fun e w' => e = .returned (.int .i64 (fallV W n x)) ∧ Below w.heap.size w w' := by
  obtain ⟨m, hm⟩ : ∃ m, m = (W - 1) / 2 := ⟨_, rfl⟩
  have hpr := fall_prod hW.2 hn hx
  have hf : fallV W n x = shiftV (n * ((x : Int) - (m : Int))) := by unfold fallV; rw [← hm]
  rw [← hm] at hpr
  rw [hf]
  obtain ⟨p, hp⟩ : ∃ p, p = n * ((x : Int) - (m : Int)) := ⟨_, rfl⟩
  rw [← hp] at hpr ⊢
  have hp' : n * ((x : Int) - (m : Int)) = p := hp.symm
  obtain ⟨p1, p2⟩ := hpr
  have e1 : ((W : Int) - 1) / 2 = (m : Int) := by omega
  have hm2 : m ≤ 4000 := by omega
  clear hp hm hf
  go_enter Try.func85, Try.ntmps85
  go_wp2_with fail
  refine (down_any ((W : Int) - 1) 2 _ (by omega) (by omega) (by omega) (by omega)).mono ?_
  rintro e w' ⟨rfl, rfl⟩
  rw [e1]
  go_wp2_with fail
  refine (shiftR_any p _ ⟨p1, p2⟩).mono ?_
  rintro e w' ⟨rfl, rfl⟩
  go_wp2_with fail
  go_ret
  exact ⟨rfl, new_below _ _⟩

set_option maxHeartbeats 400000 in
theorem leanR1_any (W H gb nb g o c x y : Nat) (n : Int) (z : Nat → Bool) (w : World) (hW : 1 ≤ W ∧ W ≤ 4000) (hH : H ≤ 4000) (hx : x < W) (hy : y < H) (hn : -256 ≤ n ∧ n ≤ 256)
    (h0 : w.cell? ⟨gb, 0, none⟩ = some (.int .i64 W)) (h1 : w.cell? ⟨gb, 1, none⟩ = some (.int .i64 H)) (h2 : w.cell? ⟨gb, 2, none⟩ = some (.slice (some ⟨g, o, none⟩) (W * H) c)) (h3 : w.cell? ⟨nb, 0, none⟩ = some (.int .i64 n))
    (hc : ∀ j, j < W * H → w.cell? ⟨g, o + j, none⟩ = some (.bool (z j))) :
    Calls Try.prog 88 #[.int .i64 x, .int .i64 y, .pointer (some ⟨gb, 0, none⟩), .pointer (some ⟨nb, 0, none⟩)] w fun e w' => e = .returned (.bool (atB W H z (x : Int) ((y : Int) - fallV W n x))) ∧ Below w.heap.size w w' := by
  obtain ⟨s, hs⟩ : ∃ s, s = fallV W n x := ⟨_, rfl⟩
  have hb := fallV_bounds hW.2 hn hx
  rw [← hs] at hb ⊢
  obtain ⟨s1, s2⟩ := hb
  have e1 : IntKind.i64.wrap ((y : Int) - s) = (y : Int) - s := IntWalk.i64_in _ (by omega)
  have HC := Lib.hid hc
  have HS := Lib.hid hs
  clear hs hc
  go_enter Try.func88, Try.ntmps88
  go_wp2_with fail
  go_region_held3 (fun w' => w'.cell? ⟨gb, 0, none⟩ = some (.int .i64 W) ∧ w'.cell? ⟨gb, 1, none⟩ = some (.int .i64 H) ∧ w'.cell? ⟨gb, 2, none⟩ = some (.slice (some ⟨g, o, none⟩) (W * H) c) ∧ w'.cell? ⟨nb, 0, none⟩ = some (.int .i64 n))
    (first | (go_keep; done) | (go_split_ands; exact ⟨cell_later hb5 (by assumption), cell_later hb5 (by assumption), cell_later hb5 (by assumption), cell_later hb5 (by assumption)⟩) | (go_split_ands; exact ⟨cell_later hb6 (by assumption), cell_later hb6 (by assumption), cell_later hb6 (by assumption), cell_later hb6 (by assumption)⟩))
    ((first | (go_at_call 85; ((with_reducible refine (fallR_any W H x n _ _ _ _ hW hn hx).mono ?_); rw [← HS.out]; rintro e w5 ⟨rfl, hb5⟩)) | (go_at_call 86; ((with_reducible refine (atR_any W H g o c (x : Int) ((y : Int) - s) z w5 hW.2 hH (fun j hj => cell_later (below_step (Below.refl _ _).drew hb5) (HC.out j hj))).mono ?_); rintro e w6 ⟨rfl, hb6⟩))))
  go_wp2_with fail
  go_ret
  exact ⟨rfl, below_step (below_step (Below.refl _ _).drew hb5) hb6⟩

set_option maxHeartbeats 400000 in
theorem slantR1_any (W H gb nb g o c x y : Nat) (n : Int) (z : Nat → Bool) (w : World) (hW : W ≤ 4000) (hH : 1 ≤ H ∧ H ≤ 4000) (hx : x < W) (hy : y < H) (hn : -256 ≤ n ∧ n ≤ 256)
    (h0 : w.cell? ⟨gb, 0, none⟩ = some (.int .i64 W)) (h1 : w.cell? ⟨gb, 1, none⟩ = some (.int .i64 H)) (h2 : w.cell? ⟨gb, 2, none⟩ = some (.slice (some ⟨g, o, none⟩) (W * H) c)) (h3 : w.cell? ⟨nb, 0, none⟩ = some (.int .i64 n))
    (hc : ∀ j, j < W * H → w.cell? ⟨g, o + j, none⟩ = some (.bool (z j))) :
    Calls Try.prog 89 #[.int .i64 x, .int .i64 y, .pointer (some ⟨gb, 0, none⟩), .pointer (some ⟨nb, 0, none⟩)] w fun e w' => e = .returned (.bool (atB W H z ((x : Int) - fallV H (-n) y) (y : Int))) ∧ Below w.heap.size w w' := by
  obtain ⟨m, hm⟩ : ∃ m, m = (H - 1) / 2 := ⟨_, rfl⟩
  have hpr := fall_prod (n := -n) hH.2 (by omega) hy
  have hb := fallV_bounds (n := -n) hH.2 (by omega) hy
  have hf : fallV H (-n) y = shiftV (-n * ((y : Int) - (m : Int))) := by unfold fallV; rw [← hm]
  rw [← hm] at hpr
  obtain ⟨p, hp⟩ : ∃ p, p = n * ((m : Int) - (y : Int)) := ⟨_, rfl⟩
  have hpp : -n * ((y : Int) - (m : Int)) = p := by rw [hp, Int.neg_mul, ← Int.mul_neg]; congr 1; omega
  rw [hpp] at hpr hf
  have hp' : n * ((m : Int) - (y : Int)) = p := hp.symm
  obtain ⟨p1, p2⟩ := hpr
  obtain ⟨s, hs⟩ : ∃ s, s = fallV H (-n) y := ⟨_, rfl⟩
  rw [← hs] at hb hf ⊢
  obtain ⟨s1, s2⟩ := hb
  have d1 : ((H : Int) - 1) / 2 = (m : Int) := by omega
  have hm2 : m ≤ 4000 := by omega
  have e1 : IntKind.i64.wrap ((x : Int) - s) = (x : Int) - s := IntWalk.i64_in _ (by omega)
  have e2 : IntKind.i64.wrap ((H : Int) - 1) = (H : Int) - 1 := IntWalk.i64_in _ (by omega)
  have e3 : IntKind.i64.wrap ((m : Int) - (y : Int)) = (m : Int) - (y : Int) := IntWalk.i64_in _ (by omega)
  have e4 : IntKind.i64.wrap p = p := IntWalk.i64_in _ (by omega)
  have HC := Lib.hid hc
  have HS := Lib.hid hs
  have HF := Lib.hid hf
  have D1 := Lib.hid d1
  clear hs hc hp hm hf hpp d1
  go_enter Try.func89, Try.ntmps89
  go_wp2_with fail
  go_region_held3 (fun w' => w'.cell? ⟨gb, 0, none⟩ = some (.int .i64 W) ∧ w'.cell? ⟨gb, 1, none⟩ = some (.int .i64 H) ∧ w'.cell? ⟨gb, 2, none⟩ = some (.slice (some ⟨g, o, none⟩) (W * H) c) ∧ w'.cell? ⟨nb, 0, none⟩ = some (.int .i64 n))
    (first | (go_keep; done) | (go_split_ands; exact ⟨cell_later hb6 (by assumption), cell_later hb6 (by assumption), cell_later hb6 (by assumption), cell_later hb6 (by assumption)⟩))
    ((first | (go_at_call 91; ((with_reducible refine (down_any ((H : Int) - 1) 2 _ (by omega) (by omega) (by omega) (by omega)).mono ?_); rw [D1.out]; rintro e w' ⟨rfl, rfl⟩)) | (go_at_call 90; ((with_reducible refine (shiftR_any p _ ⟨p1, p2⟩).mono ?_); rw [← HF.out]; rintro e w' ⟨rfl, rfl⟩)) | (go_at_call 86; ((with_reducible refine (atR_any W H g o c ((x : Int) - s) (y : Int) z w.drew hW hH.2 (fun j hj => cell_later (Below.refl _ _).drew (HC.out j hj))).mono ?_); rintro e w6 ⟨rfl, hb6⟩))))
  go_wp2_with fail
  go_ret
  exact ⟨rfl, below_step (Below.refl _ _).drew hb6⟩

end Go.Proofs.Ytofcojcfcpfdmaa
namespace Go.Proofs.Ytofcojcfcpfdmaa
open Go.RowKit
set_option linter.unusedSimpArgs false
set_option linter.unusedVariables false

theorem lean_bad (a b n : Int) (p : Option Addr) (k c : Nat) (w : World) (h : orI (pageErr a b k) (leanErr n (-256)) ≠ 0) :
    Calls Try.prog 22 #[.agg #[.int .i64 a, .int .i64 b, .slice p k c], .int .i64 n] w fun e w' => e = .returned (.tuple #[.agg #[.int .i64 0, .int .i64 0, .slice none 0 0], .int .i64 (orI (pageErr a b k) (leanErr n (-256)))]) ∧ Below w.heap.size w w' := by
  obtain ⟨q, hq⟩ : ∃ q, q = orI (pageErr a b k) (leanErr n (-256)) := ⟨_, rfl⟩
  rw [← hq] at h ⊢
  have t1 : (q != 0) = true := by simpa using h
  have HQ := Lib.hid hq
  clear h hq
  go_enter Try.func22, Try.ntmps22
  go_wp2_with fail
  obtain ⟨w1, hw1⟩ : ∃ w1, w1 = (w.alloc (.cells #[.int .i64 a, .int .i64 b, .slice p k c] 40)).alloc (.cells #[.int .i64 0, .int .i64 0, .slice none 0 0] 40) := ⟨_, rfl⟩
  have B1 : Below w.heap.size w w1 := by rw [hw1]; exact below_alloc (new_below _ _) _
  have qb : w1.heap[w.heap.size + 1]? = some (.cells #[.int .i64 0, .int .i64 0, .slice none 0 0] 40 (0, 0)) := by
    rw [hw1]; simpa using heap_alloc_new (w.alloc (.cells #[.int .i64 a, .int .i64 b, .slice p k c] 40)) (.cells #[.int .i64 0, .int .i64 0, .slice none 0 0] 40)
  rw [← hw1]
  clear hw1
  refine (checkLean_any a b n p k c w1).mono ?_
  rintro e w2 ⟨rfl, hb2⟩
  rw [← HQ.out]
  obtain ⟨j0, j1, j2, r0, r1, r2⟩ := block3 (below_block hb2 qb)
  have G := Lib.hid (below_step B1 hb2)
  clear hb2 B1 qb
  go_wp2_with fail
  exact bodyPost_ret (v := .tuple #[.agg #[.int .i64 0, .int .i64 0, .slice none 0 0], .int .i64 q]) (by simp [results, Try.results22, go_sem, j0, j1, j2]) rfl ⟨rfl, below_far3 G.out (by omega)⟩

set_option maxHeartbeats 800000 in
set_option maxRecDepth 100000 in
theorem lean_ok (W H g o c : Nat) (n : Int) (z : Nat → Bool) (w : World) (hs : sizeErr W H = 0) (hn : -256 ≤ n ∧ n ≤ 256) (hp : ∀ j, j < W * H → w.cell? ⟨g, o + j, none⟩ = some (.bool (z j))) :
    Calls Try.prog 22 #[.agg #[.int .i64 W, .int .i64 H, .slice (some ⟨g, o, none⟩) (W * H) c], .int .i64 n] w fun e w' =>
      ∃ v, e = .returned (.tuple #[.agg #[.int .i64 W, .int .i64 H, v], .int .i64 0]) ∧ w'.ownsRow w.heap.size 4 1 v (W * H) ((places W (fun x y => atB W H z (x : Int) ((y : Int) - fallV W n x)) (W * H)).map Value.bool) ∧ Below w.heap.size w w' := by
  have hmf : ∀ (fn : Fn) (first cap : Array Value) (w : World), (Instr.makeFunc fn first cap).run Try.prog w = .ok (.func fn first cap) w := fun _ _ _ _ => rfl
  obtain ⟨⟨a1, a2, a3, a4⟩, a5, a6⟩ := sizeErr_zero hs
  have hpe : pageErr W H (W * H) = 0 := by unfold pageErr; rw [if_pos hs, if_pos (by simp [Int.natCast_mul])]
  have hN : W * H ≤ 1048576 := by rw [← Int.natCast_mul] at a6; omega
  have hq : orI (pageErr W H (W * H)) (leanErr n (-256)) = 0 := by unfold orI leanErr; rw [if_pos hpe, if_pos hn]
  have HQ := Lib.hid hq
  have HC := Lib.hid hp
  have HN := Lib.hid hn
  have bW : 1 ≤ W ∧ W ≤ 4000 := by omega
  have bH : 1 ≤ H ∧ H ≤ 4000 := by omega
  obtain ⟨n1, n2⟩ := hn
  clear hp hq hpe a5 a6 hs
  go_enter Try.func22, Try.ntmps22
  go_wp2_with fail
  obtain ⟨w1, hw1⟩ : ∃ w1, w1 = (w.alloc (.cells #[.int .i64 W, .int .i64 H, .slice (some ⟨g, o, none⟩) (W * H) c] 40)).alloc (.cells #[.int .i64 0, .int .i64 0, .slice none 0 0] 40) := ⟨_, rfl⟩
  have B1 : Below w.heap.size w w1 := by rw [hw1]; exact below_alloc (new_below _ _) _
  have q0 : w1.heap[w.heap.size]? = some (.cells #[.int .i64 W, .int .i64 H, .slice (some ⟨g, o, none⟩) (W * H) c] 40 (0, 0)) := by
    rw [hw1, Below.heap_alloc _ _ _ (by simp)]; exact heap_alloc_new _ _
  have qb : w1.heap[w.heap.size + 1]? = some (.cells #[.int .i64 0, .int .i64 0, .slice none 0 0] 40 (0, 0)) := by
    rw [hw1]; simpa using heap_alloc_new (w.alloc (.cells #[.int .i64 W, .int .i64 H, .slice (some ⟨g, o, none⟩) (W * H) c] 40)) (.cells #[.int .i64 0, .int .i64 0, .slice none 0 0] 40)
  rw [← hw1]
  clear hw1
  refine (checkLean_any W H n (some ⟨g, o, none⟩) (W * H) c w1).mono ?_
  rintro e w2 ⟨rfl, hb2⟩
  rw [HQ.out]
  obtain ⟨p0, p1, p2, _, _, _⟩ := block3 (below_block hb2 q0)
  have Q2 := Lib.hid (below_block hb2 q0)
  have QB2 := Lib.hid (below_block hb2 qb)
  have G2 := Lib.hid (below_step B1 hb2)
  clear hb2 B1 qb q0
  go_wp2_with fail
  refine (shifts_any W n w2 bW (by omega)).mono ?_
  rintro e w3 ⟨v, rfl, hown3, hb3⟩
  obtain ⟨sg, sc, rfl⟩ : ∃ sg sc, v = .slice (some ⟨sg, 0, none⟩) W sc := by
    rcases hown3.2 with ⟨_, h0⟩ | ⟨sg, cap, cur, h0, _⟩
    · omega
    · exact ⟨_, _, h0⟩
  have Q3 := Lib.hid (below_block hb3 Q2.out)
  have QB3 := Lib.hid (below_block hb3 QB2.out)
  have G3 := Lib.hid (below_step G2.out hb3)
  have O3 := Lib.hid hown3
  clear hb3 hown3 Q2 QB2 p0 p1 p2
  obtain ⟨p0, p1, p2, _, _, _⟩ := block3 Q3.out
  have l0 := World.block_lt_of_cell? _ _ p0
  simp only at l0
  go_wp2_with fail
  obtain ⟨w4, hw4⟩ : ∃ w4, w4 = w3.alloc (.cells #[.slice (some ⟨sg, 0, none⟩) W sc] 52) := ⟨_, rfl⟩
  have B4 : Below w3.heap.size w3 w4 := by rw [hw4]; exact new_below _ _
  have lb : w4.cell? ⟨w3.heap.size, 0, none⟩ = some (.slice (some ⟨sg, 0, none⟩) W sc) := by rw [hw4]; go_simp
  rw [← hw4]
  clear hw4
  have Q4 := Lib.hid (below_block B4 Q3.out)
  have QB4 := Lib.hid (below_block B4 QB3.out)
  have G4 := Lib.hid (below_step G3.out B4)
  have O4 := Lib.hid (below_owns O3.out B4)
  clear B4 Q3 QB3 G3 O3 p0 p1 p2
  refine (moved_any W H g o (W * H) c 75 _ (fun x y => atB W H z (x : Int) ((y : Int) - fallV W n x)) w4 bW bH hN (Go.Proofs.enters_of Try.func75 (by kernel_rfl) rfl) ?_).mono ?_
  · intro x y wx hx hy hbx
    obtain ⟨k0, k1, k2, _, _, _⟩ := block3 (below_block hbx Q4.out)
    have hcell := (below_owns O4.out hbx).cellAt x (by omega)
    rw [intsOf_get _ _ _ (by omega)] at hcell
    exact lean1_any W H w.heap.size w3.heap.size g o c sg sc x y (fallV W n) z wx bW.2 bH.2 hx hy (fallV_bounds (by omega) (by have := HN.out; omega) hx) k0 k1 k2 (cell_later hbx lb) hcell (fun j hj => cell_later (below_step G4.out hbx) (HC.out j hj))
  · rintro e w5 ⟨v, rfl, hown, hb5⟩
    obtain ⟨j0, j1, j2, r0, r1, r2⟩ := block3 (below_block hb5 QB4.out)
    have lt1 := Lib.hid (Array.getElem?_eq_some_iff.1 QB4.out).1
    have hsz := G4.out.size
    obtain ⟨va, vn, vc, rfl⟩ := owns_shape hown
    have F := Lib.hid hown
    have G := Lib.hid (below_step G4.out hb5)
    clear hown hb5 lb
    go_wp2_with fail
    refine bodyPost_ret (v := .tuple #[.agg #[.int .i64 W, .int .i64 H, .slice va vn vc], .int .i64 0]) (by simp [results, Try.results22, go_sem, j0, j1, j2]) rfl ⟨_, rfl, owns_far3 F.out lt1.out hsz, below_far3 G.out (by omega)⟩

theorem slant_bad (a b n : Int) (p : Option Addr) (k c : Nat) (w : World) (h : orI (pageErr a b k) (leanErr n (-256)) ≠ 0) :
    Calls Try.prog 29 #[.agg #[.int .i64 a, .int .i64 b, .slice p k c], .int .i64 n] w fun e w' => e = .returned (.tuple #[.agg #[.int .i64 0, .int .i64 0, .slice none 0 0], .int .i64 (orI (pageErr a b k) (leanErr n (-256)))]) ∧ Below w.heap.size w w' := by
  obtain ⟨q, hq⟩ : ∃ q, q = orI (pageErr a b k) (leanErr n (-256)) := ⟨_, rfl⟩
  rw [← hq] at h ⊢
  have t1 : (q != 0) = true := by simpa using h
  have HQ := Lib.hid hq
  clear h hq
  go_enter Try.func29, Try.ntmps29
  go_wp2_with fail
  obtain ⟨w1, hw1⟩ : ∃ w1, w1 = (w.alloc (.cells #[.int .i64 a, .int .i64 b, .slice p k c] 40)).alloc (.cells #[.int .i64 0, .int .i64 0, .slice none 0 0] 40) := ⟨_, rfl⟩
  have B1 : Below w.heap.size w w1 := by rw [hw1]; exact below_alloc (new_below _ _) _
  have qb : w1.heap[w.heap.size + 1]? = some (.cells #[.int .i64 0, .int .i64 0, .slice none 0 0] 40 (0, 0)) := by
    rw [hw1]; simpa using heap_alloc_new (w.alloc (.cells #[.int .i64 a, .int .i64 b, .slice p k c] 40)) (.cells #[.int .i64 0, .int .i64 0, .slice none 0 0] 40)
  rw [← hw1]
  clear hw1
  refine (checkLean_any a b n p k c w1).mono ?_
  rintro e w2 ⟨rfl, hb2⟩
  rw [← HQ.out]
  obtain ⟨j0, j1, j2, r0, r1, r2⟩ := block3 (below_block hb2 qb)
  have G := Lib.hid (below_step B1 hb2)
  clear hb2 B1 qb
  go_wp2_with fail
  exact bodyPost_ret (v := .tuple #[.agg #[.int .i64 0, .int .i64 0, .slice none 0 0], .int .i64 q]) (by simp [results, Try.results29, go_sem, j0, j1, j2]) rfl ⟨rfl, below_far3 G.out (by omega)⟩

set_option maxHeartbeats 800000 in
set_option maxRecDepth 100000 in
theorem slant_ok (W H g o c : Nat) (n : Int) (z : Nat → Bool) (w : World) (hs : sizeErr W H = 0) (hn : -256 ≤ n ∧ n ≤ 256) (hp : ∀ j, j < W * H → w.cell? ⟨g, o + j, none⟩ = some (.bool (z j))) :
    Calls Try.prog 29 #[.agg #[.int .i64 W, .int .i64 H, .slice (some ⟨g, o, none⟩) (W * H) c], .int .i64 n] w fun e w' =>
      ∃ v, e = .returned (.tuple #[.agg #[.int .i64 W, .int .i64 H, v], .int .i64 0]) ∧ w'.ownsRow w.heap.size 4 1 v (W * H) ((places W (fun x y => atB W H z ((x : Int) - fallV H (-n) y) (y : Int)) (W * H)).map Value.bool) ∧ Below w.heap.size w w' := by
  have hmf : ∀ (fn : Fn) (first cap : Array Value) (w : World), (Instr.makeFunc fn first cap).run Try.prog w = .ok (.func fn first cap) w := fun _ _ _ _ => rfl
  obtain ⟨⟨a1, a2, a3, a4⟩, a5, a6⟩ := sizeErr_zero hs
  have hpe : pageErr W H (W * H) = 0 := by unfold pageErr; rw [if_pos hs, if_pos (by simp [Int.natCast_mul])]
  have hN : W * H ≤ 1048576 := by rw [← Int.natCast_mul] at a6; omega
  have hq : orI (pageErr W H (W * H)) (leanErr n (-256)) = 0 := by unfold orI leanErr; rw [if_pos hpe, if_pos hn]
  have HQ := Lib.hid hq
  have HC := Lib.hid hp
  have HN := Lib.hid hn
  have bW : 1 ≤ W ∧ W ≤ 4000 := by omega
  have bH : 1 ≤ H ∧ H ≤ 4000 := by omega
  obtain ⟨n1, n2⟩ := hn
  clear hp hq hpe a5 a6 hs
  go_enter Try.func29, Try.ntmps29
  go_wp2_with fail
  obtain ⟨w1, hw1⟩ : ∃ w1, w1 = (w.alloc (.cells #[.int .i64 W, .int .i64 H, .slice (some ⟨g, o, none⟩) (W * H) c] 40)).alloc (.cells #[.int .i64 0, .int .i64 0, .slice none 0 0] 40) := ⟨_, rfl⟩
  have B1 : Below w.heap.size w w1 := by rw [hw1]; exact below_alloc (new_below _ _) _
  have q0 : w1.heap[w.heap.size]? = some (.cells #[.int .i64 W, .int .i64 H, .slice (some ⟨g, o, none⟩) (W * H) c] 40 (0, 0)) := by
    rw [hw1, Below.heap_alloc _ _ _ (by simp)]; exact heap_alloc_new _ _
  have qb : w1.heap[w.heap.size + 1]? = some (.cells #[.int .i64 0, .int .i64 0, .slice none 0 0] 40 (0, 0)) := by
    rw [hw1]; simpa using heap_alloc_new (w.alloc (.cells #[.int .i64 W, .int .i64 H, .slice (some ⟨g, o, none⟩) (W * H) c] 40)) (.cells #[.int .i64 0, .int .i64 0, .slice none 0 0] 40)
  rw [← hw1]
  clear hw1
  refine (checkLean_any W H n (some ⟨g, o, none⟩) (W * H) c w1).mono ?_
  rintro e w2 ⟨rfl, hb2⟩
  rw [HQ.out]
  obtain ⟨p0, p1, p2, _, _, _⟩ := block3 (below_block hb2 q0)
  have Q2 := Lib.hid (below_block hb2 q0)
  have QB2 := Lib.hid (below_block hb2 qb)
  have G2 := Lib.hid (below_step B1 hb2)
  clear hb2 B1 qb q0
  go_wp2_with fail
  refine (shifts_any H (-n) w2 bH (by omega)).mono ?_
  rintro e w3 ⟨v, rfl, hown3, hb3⟩
  obtain ⟨sg, sc, rfl⟩ : ∃ sg sc, v = .slice (some ⟨sg, 0, none⟩) H sc := by
    rcases hown3.2 with ⟨_, h0⟩ | ⟨sg, cap, cur, h0, _⟩
    · omega
    · exact ⟨_, _, h0⟩
  have Q3 := Lib.hid (below_block hb3 Q2.out)
  have QB3 := Lib.hid (below_block hb3 QB2.out)
  have G3 := Lib.hid (below_step G2.out hb3)
  have O3 := Lib.hid hown3
  clear hb3 hown3 Q2 QB2 p0 p1 p2
  obtain ⟨p0, p1, p2, _, _, _⟩ := block3 Q3.out
  have l0 := World.block_lt_of_cell? _ _ p0
  simp only at l0
  go_wp2_with fail
  obtain ⟨w4, hw4⟩ : ∃ w4, w4 = w3.alloc (.cells #[.slice (some ⟨sg, 0, none⟩) H sc] 52) := ⟨_, rfl⟩
  have B4 : Below w3.heap.size w3 w4 := by rw [hw4]; exact new_below _ _
  have lb : w4.cell? ⟨w3.heap.size, 0, none⟩ = some (.slice (some ⟨sg, 0, none⟩) H sc) := by rw [hw4]; go_simp
  rw [← hw4]
  clear hw4
  have Q4 := Lib.hid (below_block B4 Q3.out)
  have QB4 := Lib.hid (below_block B4 QB3.out)
  have G4 := Lib.hid (below_step G3.out B4)
  have O4 := Lib.hid (below_owns O3.out B4)
  clear B4 Q3 QB3 G3 O3 p0 p1 p2
  refine (moved_any W H g o (W * H) c 82 _ (fun x y => atB W H z ((x : Int) - fallV H (-n) y) (y : Int)) w4 bW bH hN (Go.Proofs.enters_of Try.func82 (by kernel_rfl) rfl) ?_).mono ?_
  · intro x y wx hx hy hbx
    obtain ⟨k0, k1, k2, _, _, _⟩ := block3 (below_block hbx Q4.out)
    have hcell := (below_owns O4.out hbx).cellAt y (by omega)
    rw [intsOf_get _ _ _ (by omega)] at hcell
    exact slant1_any W H w.heap.size w3.heap.size g o c sg sc x y (fallV H (-n)) z wx bW.2 bH.2 hx hy (fallV_bounds (by omega) (by have := HN.out; omega) hy) k0 k1 k2 (cell_later hbx lb) hcell (fun j hj => cell_later (below_step G4.out hbx) (HC.out j hj))
  · rintro e w5 ⟨v, rfl, hown, hb5⟩
    obtain ⟨j0, j1, j2, r0, r1, r2⟩ := block3 (below_block hb5 QB4.out)
    have lt1 := Lib.hid (Array.getElem?_eq_some_iff.1 QB4.out).1
    have hsz := G4.out.size
    obtain ⟨va, vn, vc, rfl⟩ := owns_shape hown
    have F := Lib.hid hown
    have G := Lib.hid (below_step G4.out hb5)
    clear hown hb5 lb
    go_wp2_with fail
    refine bodyPost_ret (v := .tuple #[.agg #[.int .i64 W, .int .i64 H, .slice va vn vc], .int .i64 0]) (by simp [results, Try.results29, go_sem, j0, j1, j2]) rfl ⟨_, rfl, owns_far3 F.out lt1.out hsz, below_far3 G.out (by omega)⟩

set_option maxHeartbeats 800000 in
set_option maxRecDepth 100000 in
theorem leanR_ok (W H g o c : Nat) (n : Int) (z : Nat → Bool) (w : World) (bW : 1 ≤ W ∧ W ≤ 4000) (bH : 1 ≤ H ∧ H ≤ 4000) (hN : W * H ≤ 1048576) (hn : -256 ≤ n ∧ n ≤ 256) (hp : ∀ j, j < W * H → w.cell? ⟨g, o + j, none⟩ = some (.bool (z j))) :
    Calls Try.prog 37 #[.agg #[.int .i64 W, .int .i64 H, .slice (some ⟨g, o, none⟩) (W * H) c], .int .i64 n] w fun e w' =>
      ∃ v, e = .returned (.agg #[.int .i64 W, .int .i64 H, v]) ∧ w'.ownsRow w.heap.size 4 1 v (W * H) ((places W (fun x y => atB W H z (x : Int) ((y : Int) - fallV W n x)) (W * H)).map Value.bool) ∧ Below w.heap.size w w' := by
  have hmf : ∀ (fn : Fn) (first cap : Array Value) (w : World), (Instr.makeFunc fn first cap).run Try.prog w = .ok (.func fn first cap) w := fun _ _ _ _ => rfl
  have HC := Lib.hid hp
  clear hp
  go_enter Try.func37, Try.ntmps37
  go_wp2_with fail
  obtain ⟨w3, hw3⟩ : ∃ w3, w3 = ((w.alloc (.cells #[.int .i64 W, .int .i64 H, .slice (some ⟨g, o, none⟩) (W * H) c] 40)).alloc (.cells #[.int .i64 n] 3)).alloc (.cells #[.int .i64 0, .int .i64 0, .slice none 0 0] 40) := ⟨_, rfl⟩
  have B3 : Below w.heap.size w w3 := by rw [hw3]; exact below_alloc (below_alloc (new_below _ _) _) _
  have q0 : w3.cell? ⟨w.heap.size, 0, none⟩ = some (.int .i64 W) := by rw [hw3]; go_simp
  have q1 : w3.cell? ⟨w.heap.size, 1, none⟩ = some (.int .i64 H) := by rw [hw3]; go_simp
  have q2 : w3.cell? ⟨w.heap.size, 2, none⟩ = some (.slice (some ⟨g, o, none⟩) (W * H) c) := by rw [hw3]; go_simp
  have q3 : w3.cell? ⟨w.heap.size + 1, 0, none⟩ = some (.int .i64 n) := by rw [hw3]; go_simp
  have qb : w3.heap[w.heap.size + 1 + 1]? = some (.cells #[.int .i64 0, .int .i64 0, .slice none 0 0] 40 (0, 0)) := by
    rw [hw3]
    simpa using heap_alloc_new ((w.alloc (.cells #[.int .i64 W, .int .i64 H, .slice (some ⟨g, o, none⟩) (W * H) c] 40)).alloc (.cells #[.int .i64 n] 3)) (.cells #[.int .i64 0, .int .i64 0, .slice none 0 0] 40)
  rw [← hw3]
  clear hw3
  have lt1 := Lib.hid (Array.getElem?_eq_some_iff.1 qb).1
  refine (made_any W H 88 _ (fun x y => atB W H z (x : Int) ((y : Int) - fallV W n x)) w3 (by omega) (by omega) (by omega) (by omega) (Go.Proofs.enters_of Try.func88 (by kernel_rfl) rfl) ?_).mono ?_
  · intro x y wx hx hy hbx
    exact leanR1_any W H w.heap.size (w.heap.size + 1) g o c x y n z wx bW bH.2 hx hy hn (cell_later hbx q0) (cell_later hbx q1) (cell_later hbx q2) (cell_later hbx q3) (fun j hj => cell_later (below_step B3 hbx) (HC.out j hj))
  · rintro e w5 ⟨v, rfl, hown, hb5⟩
    obtain ⟨j0, j1, j2, r0, r1, r2⟩ := block3 (below_block hb5 qb)
    obtain ⟨va, vn, vc, rfl⟩ := owns_shape hown
    have F := Lib.hid hown
    have G := Lib.hid (below_step B3 hb5)
    clear hown hb5 q0 q1 q2 q3 qb
    go_wp2_with fail
    refine bodyPost_ret (v := .agg #[.int .i64 W, .int .i64 H, .slice va vn vc]) (by simp [results, Try.results37, go_sem, j0, j1, j2]) rfl ⟨_, rfl, owns_far3 F.out lt1.out B3.size, below_far3 G.out (by omega)⟩

set_option maxHeartbeats 800000 in
set_option maxRecDepth 100000 in
theorem slantR_ok (W H g o c : Nat) (n : Int) (z : Nat → Bool) (w : World) (bW : 1 ≤ W ∧ W ≤ 4000) (bH : 1 ≤ H ∧ H ≤ 4000) (hN : W * H ≤ 1048576) (hn : -256 ≤ n ∧ n ≤ 256) (hp : ∀ j, j < W * H → w.cell? ⟨g, o + j, none⟩ = some (.bool (z j))) :
    Calls Try.prog 38 #[.agg #[.int .i64 W, .int .i64 H, .slice (some ⟨g, o, none⟩) (W * H) c], .int .i64 n] w fun e w' =>
      ∃ v, e = .returned (.agg #[.int .i64 W, .int .i64 H, v]) ∧ w'.ownsRow w.heap.size 4 1 v (W * H) ((places W (fun x y => atB W H z ((x : Int) - fallV H (-n) y) (y : Int)) (W * H)).map Value.bool) ∧ Below w.heap.size w w' := by
  have hmf : ∀ (fn : Fn) (first cap : Array Value) (w : World), (Instr.makeFunc fn first cap).run Try.prog w = .ok (.func fn first cap) w := fun _ _ _ _ => rfl
  have HC := Lib.hid hp
  clear hp
  go_enter Try.func38, Try.ntmps38
  go_wp2_with fail
  obtain ⟨w3, hw3⟩ : ∃ w3, w3 = ((w.alloc (.cells #[.int .i64 W, .int .i64 H, .slice (some ⟨g, o, none⟩) (W * H) c] 40)).alloc (.cells #[.int .i64 n] 3)).alloc (.cells #[.int .i64 0, .int .i64 0, .slice none 0 0] 40) := ⟨_, rfl⟩
  have B3 : Below w.heap.size w w3 := by rw [hw3]; exact below_alloc (below_alloc (new_below _ _) _) _
  have q0 : w3.cell? ⟨w.heap.size, 0, none⟩ = some (.int .i64 W) := by rw [hw3]; go_simp
  have q1 : w3.cell? ⟨w.heap.size, 1, none⟩ = some (.int .i64 H) := by rw [hw3]; go_simp
  have q2 : w3.cell? ⟨w.heap.size, 2, none⟩ = some (.slice (some ⟨g, o, none⟩) (W * H) c) := by rw [hw3]; go_simp
  have q3 : w3.cell? ⟨w.heap.size + 1, 0, none⟩ = some (.int .i64 n) := by rw [hw3]; go_simp
  have qb : w3.heap[w.heap.size + 1 + 1]? = some (.cells #[.int .i64 0, .int .i64 0, .slice none 0 0] 40 (0, 0)) := by
    rw [hw3]
    simpa using heap_alloc_new ((w.alloc (.cells #[.int .i64 W, .int .i64 H, .slice (some ⟨g, o, none⟩) (W * H) c] 40)).alloc (.cells #[.int .i64 n] 3)) (.cells #[.int .i64 0, .int .i64 0, .slice none 0 0] 40)
  rw [← hw3]
  clear hw3
  have lt1 := Lib.hid (Array.getElem?_eq_some_iff.1 qb).1
  refine (made_any W H 89 _ (fun x y => atB W H z ((x : Int) - fallV H (-n) y) (y : Int)) w3 (by omega) (by omega) (by omega) (by omega) (Go.Proofs.enters_of Try.func89 (by kernel_rfl) rfl) ?_).mono ?_
  · intro x y wx hx hy hbx
    exact slantR1_any W H w.heap.size (w.heap.size + 1) g o c x y n z wx bW.2 bH hx hy hn (cell_later hbx q0) (cell_later hbx q1) (cell_later hbx q2) (cell_later hbx q3) (fun j hj => cell_later (below_step B3 hbx) (HC.out j hj))
  · rintro e w5 ⟨v, rfl, hown, hb5⟩
    obtain ⟨j0, j1, j2, r0, r1, r2⟩ := block3 (below_block hb5 qb)
    obtain ⟨va, vn, vc, rfl⟩ := owns_shape hown
    have F := Lib.hid hown
    have G := Lib.hid (below_step B3 hb5)
    clear hown hb5 q0 q1 q2 q3 qb
    go_wp2_with fail
    refine bodyPost_ret (v := .agg #[.int .i64 W, .int .i64 H, .slice va vn vc]) (by simp [results, Try.results38, go_sem, j0, j1, j2]) rfl ⟨_, rfl, owns_far3 F.out lt1.out B3.size, below_far3 G.out (by omega)⟩

end Go.Proofs.Ytofcojcfcpfdmaa
namespace Go.Proofs.Ytofcojcfcpfdmaa
open Go.RowKit
set_option linter.unusedSimpArgs false
set_option linter.unusedVariables false

/-- How much ink a row has before a column. -/
def bef (q : Nat → Nat → Bool) (y : Nat) : Nat → Nat
  | 0 => 0
  | x + 1 => bef q y x + (q x y).toNat
theorem bef_le (q : Nat → Nat → Bool) (y x : Nat) : bef q y x ≤ x := by
  induction x with
  | zero => exact Nat.le_refl _
  | succ x ih => rw [bef]; cases q x y <;> simp <;> omega
def befN (q : Nat → Nat → Bool) (h n i : Nat) : Int := if i < n then (bef q (i % h) (i / h) : Int) else 0

theorem idx_mod {h x y : Nat} (hy : y < h) : (x * h + y) % h = y ∧ (x * h + y) / h = x := by
  constructor
  · rw [Nat.add_comm, Nat.mul_comm, Nat.add_mul_mod_self_left, Nat.mod_eq_of_lt hy]
  · rw [Nat.add_comm, Nat.mul_comm, Nat.add_mul_div_left _ _ (by omega), Nat.div_eq_of_lt hy, Nat.zero_add]

set_option maxHeartbeats 1000000 in
set_option maxRecDepth 100000 in
theorem inkBefore_any (w h clo : Nat) (capt : Array Value) (q : Nat → Nat → Bool) (W0 : World) (hw : 1 ≤ w ∧ w ≤ 4000) (hh : 1 ≤ h ∧ h ≤ 4000) (hN : w * h ≤ 1048576)
    (eg : ∀ (args : Array Value) (W : World), (callFunc clo args).run Try.prog W = .ok (.enter clo args) W)
    (hc : ∀ (x y : Nat) (wx : World), x < w → y < h → Below W0.heap.size W0 wx → Calls Try.prog clo (#[.int .i64 x, .int .i64 y] ++ capt) wx fun e W' => e = .returned (.bool (q x y)) ∧ Below wx.heap.size wx W') :
    Calls Try.prog 144 #[.int .i64 w, .int .i64 h, .func (.func clo) #[] capt] W0 fun e w' =>
      ∃ g, e = .returned (.slice (some ⟨g, 0, none⟩) ((w + 1) * h) ((w + 1) * h)) ∧ W0.heap.size ≤ g ∧ (∀ x y, x ≤ w → y < h → w'.cell? ⟨g, x * h + y, none⟩ = some (.int .i64 (bef q y x : Int))) ∧ Below W0.heap.size W0 w' := by
  obtain ⟨i0, hi, hz0, hz1, hz2⟩ := info_parts info_int
  obtain ⟨M, hM⟩ : ∃ M, M = (w + 1) * h := ⟨_, rfl⟩
  have hM2 : M = w * h + h := by rw [hM, Nat.add_mul, Nat.one_mul]
  have hM3 : M ≤ 1100000 := by omega
  have e1 : ((w : Int) + 1) * (h : Int) = (M : Int) := by rw [hM, Int.natCast_mul]; rfl
  have HC := Lib.hid hc
  have HM := Lib.hid hM
  rw [← hM]
  clear hc hM hM2
  go_enter Try.func144, Try.ntmps144
  go_wp2_with (at_make; refine wpList_make_full _ rfl _ _ 52 rfl W0.heap.size 3 i0 (.int .i64 0) 1 Try.underlying52 hi hz0 hz1 _ _ _ _ M rfl rfl rfl rfl (by rw [hz2]; omega) (by unfold maxLen; omega) (by simp) ?_)
  intro w1 hown1 hgrow1
  rw [toList_madeCells_one, intsOf_zero] at hown1
  have hb1 := (Below.refl W0.heap.size _).grown hgrow1 (by simp) (by simp)
  have HST := Lib.hid (show w1.ownsRow W0.heap.size 3 1 (.slice (some ⟨W0.heap.size, 0, none⟩) M M) M (intsOf (befN q h (0 * h + h)) M) ∧ Below W0.heap.size W0 w1 from ⟨by
    rw [intsOf_congr (g := fun _ => 0) (fun j _ => by
      unfold befN
      split
      · rw [Nat.div_eq_of_lt (by omega)]; rfl
      · rfl)]
    exact hown1, hb1⟩)
  clear hgrow1 hb1 hown1 e1
  go_wp2_with fail
  go_loopw [17] (fun i wr => ∃ x : Nat, x ≤ w ∧ i = .int .i64 x ∧ Hid (wr.ownsRow W0.heap.size 3 1 (.slice (some ⟨W0.heap.size, 0, none⟩) M M) M (intsOf (befN q h (x * h + h)) M) ∧ Below W0.heap.size W0 wr)) (fun i _ => w - (intOf i).toNat)
  case atStart => exact ⟨0, Nat.zero_le _, rfl, HST⟩
  case round =>
    obtain ⟨x, hx, rfl, HR⟩ := hrel
    clear HST
    by_cases hlt : x < w
    · obtain ⟨wo, rfl⟩ : ∃ wo : World, wo = wr := ⟨_, rfl⟩
      have xh := row_fits hlt (show h ≤ h from Nat.le_refl _)
      rw [Nat.mul_comm h w] at xh
      go_wp2_with fail
      go_loopw [21] (fun i wr => ∃ y : Nat, y ≤ h ∧ i = .int .i64 y ∧ Hid (wr.ownsRow W0.heap.size 3 1 (.slice (some ⟨W0.heap.size, 0, none⟩) M M) M (intsOf (befN q h (x * h + h + y)) M) ∧ Below W0.heap.size W0 wr)) (fun i _ => h - (intOf i).toNat)
      case atStart => exact ⟨0, Nat.zero_le _, rfl, HR⟩
      case round =>
        obtain ⟨y, hy, rfl, HR2⟩ := hrel
        clear HR
        by_cases hlty : y < h
        · have hMw : M = w * h + h := by rw [HM.out, Nat.add_mul, Nat.one_mul]
          have t1 : x * h + y < M := by omega
          have t2 : x * h + h + y < M := by omega
          obtain ⟨d1, d2⟩ := idx_mod (x := x) hlty
          have c1 := HR2.out.1.cellAt (x * h + y) (by omega)
          rw [intsOf_get _ _ _ t1] at c1
          have hbv : befN q h (x * h + h + y) (x * h + y) = (bef q y x : Int) := by unfold befN; rw [if_pos (by omega), d1, d2]
          rw [hbv] at c1
          have ble := bef_le q y x
          obtain ⟨n, hn⟩ : ∃ n, n = bef q y x := ⟨_, rfl⟩
          rw [← hn] at c1 ble
          have l1 := World.block_lt_of_cell? _ _ c1
          simp only at l1
          have x0 : (0 : Int) ≤ (x : Int) * (h : Int) := Int.mul_nonneg (by omega) (by omega)
          have x1 : (x : Int) * (h : Int) + (y : Int) < (M : Int) := by rw [← Int.natCast_mul]; omega
          have x2 : ((x : Int) + 1) * (h : Int) + (y : Int) < (M : Int) := by rw [Int.add_mul, Int.one_mul, ← Int.natCast_mul]; omega
          have x3 : (0 : Int) ≤ ((x : Int) + 1) * (h : Int) := Int.mul_nonneg (by omega) (by omega)
          have tn : (((x : Int) + 1) * (h : Int) + (y : Int)).toNat = x * h + h + y := by rw [Int.add_mul, Int.one_mul, ← Int.natCast_mul]; omega
          have HN := Lib.hid hn
          have hnx : bef q y (x + 1) = n + (q x y).toNat := by rw [hn]; rfl
          have HNX := Lib.hid hnx
          have D := Lib.hid (show (x * h + y) % h = y ∧ (x * h + y) / h = x from ⟨d1, d2⟩)
          have MW := Lib.hid hMw
          have T := Lib.hid (show x * h + y < M ∧ x * h + h + y < M from ⟨t1, t2⟩)
          clear hn hnx hbv d1 d2 hMw t1 t2
          obtain ⟨qv, hqv⟩ : ∃ qv, qv = q x y := ⟨_, rfl⟩
          have hcl := HC.out x y wr hlt hlty HR2.out.2
          rw [← hqv] at hcl
          have HCL := Lib.hid hcl
          have HQ := Lib.hid hqv
          clear hcl hqv
          go_wp2_with fail
          refine HCL.out.mono ?_
          rintro e w2 ⟨rfl, hb2⟩
          have R2 := Lib.hid (show _ ∧ _ from ⟨below_owns HR2.out.1 hb2, HR2.out.2.trans (hb2.mono HR2.out.2.size)⟩)
          have c2 := R2.out.1.cellAt (x * h + h + y) (by have := T.out; omega)
          rw [intsOf_get _ _ _ T.out.2] at c2
          have f2 := R2.out.1.frozenAt (x * h + h + y)
          obtain ⟨z2, hz2⟩ : ∃ z2, z2 = befN q h (x * h + h + y) (x * h + h + y) := ⟨_, rfl⟩
          rw [← hz2] at c2
          have FIN := Lib.hid (fun (v : Int) (hv : v = (bef q y (x + 1) : Int)) => show ((w2.setCell ⟨W0.heap.size, x * h + h + y, none⟩ (.int .i64 v)).ownsRow W0.heap.size 3 1 (.slice (some ⟨W0.heap.size, 0, none⟩) M M) M (intsOf (befN q h (x * h + h + (y + 1))) M)) from by
            have h1 := (R2.out.1.stored (x * h + h + y) (.int .i64 v)).1
            obtain ⟨d3, d4⟩ := idx_mod (x := x + 1) hlty
            rw [Nat.add_mul, Nat.one_mul] at d3 d4
            rw [intsOf_set (g := befN q h (x * h + h + (y + 1))) T.out.2 (by unfold befN; rw [if_pos (by omega), d3, d4]; exact hv.symm) (fun i _ hne => by
              unfold befN
              by_cases h2 : i < x * h + h + y
              · rw [if_pos (by omega), if_pos h2]
              · rw [if_neg (by omega), if_neg h2])] at h1
            exact h1)
          clear hz2 hb2 c1 l1
          cases qv
          · go_wp2_with fail
            go_roundw
            case rel => exact ⟨y + 1, by omega, by go_num, Lib.hid ⟨FIN.out _ (by rw [HNX.out, ← HQ.out]; simp), R2.out.2.setCell (Nat.le_refl _) _⟩⟩
            case measure => simp [intOf]; omega
          · go_wp2_with fail
            go_roundw
            case rel => exact ⟨y + 1, by omega, by go_num, Lib.hid ⟨FIN.out _ (by rw [HNX.out, ← HQ.out]; simp), R2.out.2.setCell (Nat.le_refl _) _⟩⟩
            case measure => simp [intOf]; omega
        · have hye : y = h := by omega
          subst hye
          go_wp2_with fail
          go_roundw
          case rel => exact ⟨x + 1, by omega, by go_num, by rw [show (x + 1) * y + y = x * y + y + y by rw [Nat.add_mul, Nat.one_mul]]; exact HR2⟩
          case measure => simp [intOf]; omega
    · have hxe : x = w := by omega
      subst hxe
      go_wp2_with fail
      go_ret
      refine ⟨_, rfl, Nat.le_refl _, fun X Y hX hY => ?_, HR.out.2⟩
      have hMw : M = x * h + h := by rw [HM.out, Nat.add_mul, Nat.one_mul]
      have hfit := row_fits (show X < x + 1 by omega) (show Y + 1 ≤ h by omega)
      rw [Nat.mul_comm h, ← HM.out] at hfit
      have c1 := HR.out.1.cellAt (X * h + Y) (by omega)
      obtain ⟨d1, d2⟩ := idx_mod (x := X) hY
      rw [intsOf_get _ _ _ (by omega)] at c1
      unfold befN at c1
      rw [if_pos (by omega), d1, d2] at c1
      exact c1

end Go.Proofs.Ytofcojcfcpfdmaa
namespace Go.Proofs.Ytofcojcfcpfdmaa
open Go.RowKit
set_option linter.unusedSimpArgs false
set_option linter.unusedVariables false

/-- Two blocks of a world may have changed, and no other. -/
structure Kept (cb nb : Nat) (w w' : World) : Prop where
  os : w'.os = w.os
  tape : w'.tape = w.tape
  output : w'.output = w.output
  size : w'.heap.size = w.heap.size
  block : ∀ b, b ≠ cb → b ≠ nb → w'.heap[b]? = w.heap[b]?
theorem Kept.refl (cb nb : Nat) (w : World) : Kept cb nb w w := ⟨rfl, rfl, rfl, rfl, fun _ _ _ => rfl⟩
theorem Kept.trans {cb nb : Nat} {w a b : World} (h : Kept cb nb w a) (k : Kept cb nb a b) : Kept cb nb w b :=
  ⟨k.os.trans h.os, k.tape.trans h.tape, k.output.trans h.output, k.size.trans h.size, fun i h1 h2 => (k.block i h1 h2).trans (h.block i h1 h2)⟩
theorem setCell_else (w : World) (a : Addr) (v : Value) (b : Nat) (h : b ≠ a.block) : (w.setCell a v).heap[b]? = w.heap[b]? := by
  unfold World.setCell
  split <;> simp [Array.getElem?_modify, Ne.symm h]
theorem Kept.set {cb nb : Nat} {w a : World} (h : Kept cb nb w a) (p : Addr) (hp : p.block = cb ∨ p.block = nb) (v : Value) : Kept cb nb w (a.setCell p v) := by
  have hb : Below 0 a (a.setCell p v) := (Below.refl _ _).setCell (Nat.zero_le _) _
  refine ⟨hb.os.trans h.os, hb.tape.trans h.tape, hb.output.trans h.output, ?_, fun b h1 h2 => ?_⟩
  · rw [World.size_setCell]; exact h.size
  · rw [setCell_else _ _ _ _ (by rcases hp with e | e <;> rw [e] <;> assumption)]
    exact h.block b h1 h2
theorem Kept.cell {cb nb : Nat} {w a : World} (h : Kept cb nb w a) {b o : Nat} (hb : b ≠ cb ∧ b ≠ nb) {v : Value} (hc : w.cell? ⟨b, o, none⟩ = some v) : a.cell? ⟨b, o, none⟩ = some v := by
  rw [← hc]; simp only [World.cell?, h.block b hb.1 hb.2]
theorem Kept.below {cb nb B : Nat} {w a : World} (h : Kept cb nb w a) (h1 : B ≤ cb) (h2 : B ≤ nb) : Below B w a :=
  ⟨h.os, h.tape, h.output, Nat.le_of_eq h.size.symm, fun k hk => h.block k (by omega) (by omega)⟩

/-- The counts of the values, and of all. -/
def CountSt (cb nb : Nat) (S : Nat → Int) (n : Int) (w : World) : Prop :=
  (∃ arr t, w.heap[cb]? = some (.cells arr t (0, 0)) ∧ t ≠ 5 ∧ arr.size = 256 ∧ ∀ u, u < 256 → arr[u]? = some (.int .i64 (S u))) ∧ w.heap[nb]? = some (.cells #[.int .i64 n] 3 (0, 0))

theorem CountSt.congr {cb nb : Nat} {S S' : Nat → Int} {n : Int} {w : World} (h : CountSt cb nb S n w) (hS : ∀ u, u < 256 → S u = S' u) : CountSt cb nb S' n w := by
  obtain ⟨⟨arr, t, h1, h2, h3, h4⟩, h5⟩ := h
  exact ⟨⟨arr, t, h1, h2, h3, fun u hu => by rw [← hS u hu]; exact h4 u hu⟩, h5⟩

end Go.Proofs.Ytofcojcfcpfdmaa
namespace Go.Proofs.Ytofcojcfcpfdmaa
open Go.RowKit
set_option linter.unusedSimpArgs false
set_option linter.unusedVariables false

/-- What stays while a row is made. -/
structure MidFr (gb tb db base : Nat) (w : World) (og ot od : Obj) (wr : World) : Prop where
  g : wr.heap[gb]? = some og
  t : wr.heap[tb]? = some ot
  d : wr.heap[db]? = some od
  b : Below base w wr
theorem MidFr.kept {gb tb db base cb nb : Nat} {w wr w' : World} {og ot od : Obj} (h : MidFr gb tb db base w og ot od wr) (k : Kept cb nb wr w') (hg : gb ≠ cb ∧ gb ≠ nb) (ht : tb ≠ cb ∧ tb ≠ nb) (hd : db ≠ cb ∧ db ≠ nb) (h1 : base ≤ cb) (h2 : base ≤ nb) : MidFr gb tb db base w og ot od w' :=
  ⟨(k.block _ hg.1 hg.2).trans h.g, (k.block _ ht.1 ht.2).trans h.t, (k.block _ hd.1 hd.2).trans h.d, h.b.trans (k.below h1 h2)⟩
theorem MidFr.grown {gb tb db base : Nat} {w wr w' : World} {og ot od : Obj} {row : Option Nat} (h : MidFr gb tb db base w og ot od wr) (k : wr.grownBy w' row) (hg : row ≠ some gb) (ht : row ≠ some tb) (hd : row ≠ some db) (hb : base ≤ wr.heap.size) (hr : ∀ i, row = some i → base ≤ i) : MidFr gb tb db base w og ot od w' :=
  ⟨grown_block k h.g (Ne.symm hg), grown_block k h.t (Ne.symm ht), grown_block k h.d (Ne.symm hd), h.b.grown k hb hr⟩
theorem CountSt.grown {cb nb : Nat} {S : Nat → Int} {n : Int} {w w' : World} {row : Option Nat} (h : CountSt cb nb S n w) (k : w.grownBy w' row) (h1 : row ≠ some cb) (h2 : row ≠ some nb) : CountSt cb nb S n w' := by
  obtain ⟨⟨arr, t, g1, g2, g3, g4⟩, g5⟩ := h
  exact ⟨⟨arr, t, grown_block k g1 (Ne.symm h1), g2, g3, g4⟩, grown_block k g5 (Ne.symm h2)⟩
end Go.Proofs.Ytofcojcfcpfdmaa
