/-
  What inkSpreads_holds leans on: contracts of the functions that it calls.
-/
import Derived.Test.YtlpdgnhlhopmjaaRows
import Derived.WalkKit
import Derived.WalkSpells
import Derived.WalkLawsBesides
import Derived.Lib.Hide
import Derived.Deep.RegionHeld3
import Derived.Shelf.Abstract
import Derived.Lib.MinMax
import Derived.Deep.QuietTactic
import Derived.BigQuiet
import Derived.Deep.CutRange
import Derived.Deep.DeepCutAuto
import Derived.Laws.EntriesVeiled
import Derived.StillTailTactics
import Derived.Deep.AppendLies
import Derived.Deep.DrawnRows
namespace Go.Proofs.Ytlpdgnhlhopmjaa
open Go.RowKit
set_option linter.unusedSimpArgs false
set_option linter.unusedVariables false

theorem ret_int {k : IntKind} {a b : Int} (h : a = b) : Ending.returned (.int k a) = .returned (.int k b) := by rw [h]
theorem ret_bool {a b : Bool} (h : a = b) : Ending.returned (.bool a) = .returned (.bool b) := by rw [h]

theorem in_any (n a b : Int) (w : World) : Calls Try.prog 10 #[.int .i64 n, .int .i64 a, .int .i64 b] w fun r w' => r = .returned (.bool (decide (a ≤ n ∧ n ≤ b))) ∧ w = w' := by
  by_cases h : a ≤ n
  · go_enter Try.func10, Try.ntmps10
    go_wp2
    go_ret
    exact ⟨ret_bool (by simp [h]), rfl⟩
  · go_enter Try.func10, Try.ntmps10
    go_wp2
    go_ret
    exact ⟨ret_bool (by simp; omega), rfl⟩

theorem in_yes (n a b : Int) (w : World) (h : a ≤ n ∧ n ≤ b) : Calls Try.prog 10 #[.int .i64 n, .int .i64 a, .int .i64 b] w fun r w' => r = .returned (.bool true) ∧ w = w' :=
  (in_any n a b w).mono fun _ _ ⟨h1, h2⟩ => ⟨by rw [h1, decide_eq_true h], h2⟩
theorem in_no (n a b : Int) (w : World) (h : ¬ (a ≤ n ∧ n ≤ b)) : Calls Try.prog 10 #[.int .i64 n, .int .i64 a, .int .i64 b] w fun r w' => r = .returned (.bool false) ∧ w = w' :=
  (in_any n a b w).mono fun _ _ ⟨h1, h2⟩ => ⟨by rw [h1, decide_eq_false h], h2⟩

theorem outside_no (n a b : Int) (w : World) (h : a ≤ n ∧ n ≤ b) : Calls Try.prog 25 #[.int .i64 n, .int .i64 a, .int .i64 b] w fun r w' => r = .returned (.bool false) ∧ w = w' := by
  obtain ⟨h1, h2⟩ := h
  have h3 : ¬ n < a := by omega
  have h4 : ¬ b < n := by omega
  go_enter Try.func25, Try.ntmps25
  go_wp2
  go_ret
  exact ⟨rfl, rfl⟩
theorem outside_yes (n a b : Int) (w : World) (h : ¬ (a ≤ n ∧ n ≤ b)) : Calls Try.prog 25 #[.int .i64 n, .int .i64 a, .int .i64 b] w fun r w' => r = .returned (.bool true) ∧ w = w' := by
  by_cases h1 : n < a
  · clear h
    go_enter Try.func25, Try.ntmps25
    go_wp2
    go_ret
    exact ⟨rfl, rfl⟩
  · have h4 : b < n := by omega
    clear h
    go_enter Try.func25, Try.ntmps25
    go_wp2
    go_ret
    exact ⟨rfl, rfl⟩
/-- The error of a size. -/
def sizeErr (w h : Int) : Int := if w < 1 ∨ h < 1 ∨ 4000 < w ∨ 4000 < h then 3 else if 1048576 < w * h then 4 else 0

theorem mul_small {a b : Int} (ha : 1 ≤ a) (hb : 1 ≤ b) (ha' : a ≤ 4000) (hb' : b ≤ 4000) : 0 ≤ a * b ∧ a * b ≤ 16000000 := by
  refine ⟨Int.mul_nonneg (by omega) (by omega), ?_⟩
  have := Int.mul_le_mul ha' hb' (by omega) (by omega : (0:Int) ≤ 4000)
  omega

set_option maxRecDepth 100000 in
theorem checkSize_any (a b : Int) (w : World) : Calls Try.prog 52 #[.int .i64 a, .int .i64 b] w fun r w' => r = .returned (.int .i64 (sizeErr a b)) ∧ w = w' := by
  by_cases h1 : 1 ≤ a ∧ a ≤ 4000
  · have H1 := Lib.hid h1
    by_cases h2 : 1 ≤ b ∧ b ≤ 4000
    · have H2 := Lib.hid h2
      have hm := mul_small (by omega : 1 ≤ a) (by omega : 1 ≤ b) (by omega) (by omega)
      have hw : wrap64 (a * b) = a * b := by unfold wrap64; omega
      by_cases h5 : 1048576 < a * b
      · have HS := Lib.hid (show sizeErr a b = 4 by unfold sizeErr; rw [if_neg (by omega), if_pos h5])
        clear h1 h2
        go_enter Try.func52, Try.ntmps52
        go_wp2_with (first | (go_at_call 25; (with_reducible refine (outside_no a 1 4000 _ H1.out).mono ?_); rintro e w' ⟨rfl, rfl⟩) | (go_at_call 25; (with_reducible refine (outside_no b 1 4000 _ H2.out).mono ?_); rintro e w' ⟨rfl, rfl⟩))
        go_ret
        exact ⟨ret_int HS.out.symm, rfl⟩
      · have HS := Lib.hid (show sizeErr a b = 0 by unfold sizeErr; rw [if_neg (by omega), if_neg h5])
        clear h1 h2
        go_enter Try.func52, Try.ntmps52
        go_wp2_with (first | (go_at_call 25; (with_reducible refine (outside_no a 1 4000 _ H1.out).mono ?_); rintro e w' ⟨rfl, rfl⟩) | (go_at_call 25; (with_reducible refine (outside_no b 1 4000 _ H2.out).mono ?_); rintro e w' ⟨rfl, rfl⟩))
        go_ret
        exact ⟨ret_int HS.out.symm, rfl⟩
    · have H2 := Lib.hid h2
      have HS := Lib.hid (show sizeErr a b = 3 by unfold sizeErr; rw [if_pos (by omega)])
      clear h1 h2
      go_enter Try.func52, Try.ntmps52
      go_wp2_with (first | (go_at_call 25; (with_reducible refine (outside_no a 1 4000 _ H1.out).mono ?_); rintro e w' ⟨rfl, rfl⟩) | (go_at_call 25; (with_reducible refine (outside_yes b 1 4000 _ H2.out).mono ?_); rintro e w' ⟨rfl, rfl⟩))
      go_ret
      exact ⟨ret_int HS.out.symm, rfl⟩
  · have H1 := Lib.hid h1
    have HS := Lib.hid (show sizeErr a b = 3 by unfold sizeErr; rw [if_pos (by omega)])
    clear h1
    go_enter Try.func52, Try.ntmps52
    go_wp2_with (first | (go_at_call 25; (with_reducible refine (outside_yes a 1 4000 _ H1.out).mono ?_); rintro e w' ⟨rfl, rfl⟩))
    go_ret
    exact ⟨ret_int HS.out.symm, rfl⟩

end Go.Proofs.Ytlpdgnhlhopmjaa
namespace Go.Proofs.Ytlpdgnhlhopmjaa
open Go.RowKit
set_option linter.unusedSimpArgs false
set_option linter.unusedVariables false

theorem new_below (w : World) (o : Obj) : Below w.heap.size w (w.alloc o) := (Below.refl _ _).alloc (Nat.le_refl _) _
theorem below_step {w a b : World} (h : Below w.heap.size w a) (k : Below a.heap.size a b) : Below w.heap.size w b := h.trans (k.mono h.size)
theorem below_alloc {w a : World} (h : Below w.heap.size w a) (o : Obj) : Below w.heap.size w (a.alloc o) := h.alloc h.size o

theorem sizeErr_zero {a b : Int} (h : sizeErr a b = 0) : (1 ≤ a ∧ a ≤ 4000 ∧ 1 ≤ b ∧ b ≤ 4000) ∧ 0 ≤ a * b ∧ a * b ≤ 1048576 := by
  unfold sizeErr at h
  split at h
  · simp at h
  · split at h
    · simp at h
    · have := mul_small (by omega : 1 ≤ a) (by omega : 1 ≤ b) (by omega) (by omega)
      omega

/-- The error of a page: of its size, else of the number of its pixels. -/
def pageErr (a b : Int) (n : Nat) : Int := if sizeErr a b = 0 then (if (n : Int) = a * b then 0 else 2) else sizeErr a b

theorem check_any (a b : Int) (n : Nat) (w : World) : Calls Try.prog 49 #[.int .i64 a, .int .i64 b, .int .i64 n] w fun r w' => r = .returned (.int .i64 (pageErr a b n)) ∧ w = w' := by
  by_cases h : sizeErr a b = 0
  · have hz := sizeErr_zero h
    have H := Lib.hid h
    have hs : pageErr a b n = if (n : Int) = a * b then 0 else 2 := by unfold pageErr; rw [if_pos h]
    have HS := Lib.hid hs
    have hw : wrap64 (a * b) = a * b := by unfold wrap64; omega
    by_cases h2 : (n : Int) = a * b
    · have h2' : ((n : Int) != a * b) = false := by simpa using h2
      have H2 := Lib.hid h2
      clear h2 hs
      go_enter Try.func49, Try.ntmps49
      go_wp2_with ((go_at_call 52; refine (checkSize_any _ _ _).mono ?_; rintro e w' ⟨rfl, rfl⟩))
      go_ret
      exact ⟨ret_int (by rw [HS.out, if_pos H2.out]), rfl⟩
    · have h2' : ((n : Int) != a * b) = true := by simpa using h2
      have H2 := Lib.hid h2
      clear h2 hs
      go_enter Try.func49, Try.ntmps49
      go_wp2_with ((go_at_call 52; refine (checkSize_any _ _ _).mono ?_; rintro e w' ⟨rfl, rfl⟩))
      go_ret
      exact ⟨ret_int (by rw [HS.out, if_neg H2.out]), rfl⟩
  · have h' : (sizeErr a b != 0) = true := by simpa using h
    have H := Lib.hid h
    clear h
    go_enter Try.func49, Try.ntmps49
    go_wp2_with ((go_at_call 52; refine (checkSize_any _ _ _).mono ?_; rintro e w' ⟨rfl, rfl⟩))
    go_ret
    exact ⟨ret_int (by unfold pageErr; rw [if_neg H.out]), rfl⟩

theorem checkBits_any (a b : Int) (p : Option Addr) (n c : Nat) (w : World) : Calls Try.prog 56 #[.agg #[.int .i64 a, .int .i64 b, .slice p n c]] w fun r w' => r = .returned (.int .i64 (pageErr a b n)) ∧ w.alloc (.cells #[.int .i64 a, .int .i64 b, .slice p n c] 40) = w' := by
  go_enter Try.func56, Try.ntmps56
  go_wp2_with ((go_at_call 49; refine (check_any _ _ _ _).mono ?_; rintro e w' ⟨rfl, rfl⟩))
  go_ret
  exact ⟨rfl, rfl⟩

end Go.Proofs.Ytlpdgnhlhopmjaa
namespace Go.Proofs.Ytlpdgnhlhopmjaa
open Go.RowKit
set_option linter.unusedSimpArgs false
set_option linter.unusedVariables false

/-- The first n places of a page that is w wide, row by row. -/
def places {α : Type} (w : Nat) (f : Nat → Nat → α) (n : Nat) : List α := (List.range n).map fun k => f (k % w) (k / w)

theorem places_succ {α : Type} (w : Nat) (f : Nat → Nat → α) (x y : Nat) (hx : x < w) : places w f (y * w + x + 1) = places w f (y * w + x) ++ [f x y] := by
  have h1 : (y * w + x) % w = x := by rw [Nat.add_comm, Nat.mul_comm, Nat.add_mul_mod_self_left, Nat.mod_eq_of_lt hx]
  have h2 : (y * w + x) / w = y := by rw [Nat.add_comm, Nat.mul_comm, Nat.add_mul_div_left _ _ (by omega), Nat.div_eq_of_lt hx, Nat.zero_add]
  simp [places, List.range_succ, h1, h2]

theorem row_fits {w h y x : Nat} (hy : y < h) (hx : x ≤ w) : y * w + x ≤ w * h := by
  have : (y + 1) * w ≤ h * w := Nat.mul_le_mul_right _ hy
  rw [Nat.add_mul, Nat.one_mul] at this
  rw [Nat.mul_comm w h]
  omega

theorem below_owns {w w' : World} {base : Nat} {e : TypeId} {size : Nat} {v : Value} {n : Nat} {xs : List Value} (h : w.ownsRow base e size v n xs) (hb : Below w.heap.size w w') : w'.ownsRow base e size v n xs :=
  h.kept (row := none) ⟨hb.os, hb.tape, hb.output, hb.size, fun k hk _ => hb.block k hk⟩ (by cases v.ownBlock <;> simp)

theorem info_int : (Try.prog.info? 3).map (fun i => (i.zero, i.size, i.bytes)) = some (some (.int .i64 0), 1, 8) := by kernel_rfl

theorem block3 {w : World} {b : Nat} {x y z : Value} {t : TypeId} (h : w.heap[b]? = some (.cells #[x, y, z] t (0, 0))) :
    w.cell? ⟨b, 0, none⟩ = some x ∧ w.cell? ⟨b, 1, none⟩ = some y ∧ w.cell? ⟨b, 2, none⟩ = some z ∧ w.frozen? ⟨b, 0, none⟩ = false ∧ w.frozen? ⟨b, 1, none⟩ = false ∧ w.frozen? ⟨b, 2, none⟩ = false :=
  ⟨by rw [cell_of_row w b 0 _ t (0, 0) h]; rfl, by rw [cell_of_row w b 1 _ t (0, 0) h]; rfl, by rw [cell_of_row w b 2 _ t (0, 0) h]; rfl, frozen_of_row w b 0 _ t h, frozen_of_row w b 1 _ t h, frozen_of_row w b 2 _ t h⟩

theorem owns_base {w : World} {base base' : Nat} {e : TypeId} {size : Nat} {v : Value} {n : Nat} {xs : List Value} (h : w.ownsRow base e size v n xs) (hb : base' ≤ base) : w.ownsRow base' e size v n xs := by
  obtain ⟨h1, h2⟩ := h
  refine ⟨h1, ?_⟩
  rcases h2 with h2 | ⟨g, cap, cur, hv, hg, r⟩
  · exact Or.inl h2
  · exact Or.inr ⟨g, cap, cur, hv, Nat.le_trans hb hg, r⟩

theorem info_bool : (Try.prog.info? 4).map (fun i => (i.zero, i.size, i.bytes)) = some (some (.bool false), 1, 1) := by kernel_rfl

theorem below_drewN {B : Nat} {a w : World} (h : Below B a w) (q : Nat) : Below B a (w.drewN q) := ⟨h.os, h.tape, h.output, h.size, h.block⟩

theorem below_block {w w' : World} {b : Nat} {o : Obj} (hb : Below w.heap.size w w') (h : w.heap[b]? = some o) : w'.heap[b]? = some o :=
  (hb.block b (Array.getElem?_eq_some_iff.1 h).1).trans h
theorem grown_block {w w' : World} {b : Nat} {o : Obj} {row : Option Nat} (hg : w.grownBy w' row) (h : w.heap[b]? = some o) (hne : some b ≠ row) : w'.heap[b]? = some o :=
  (hg.block b (Array.getElem?_eq_some_iff.1 h).1 hne).trans h

theorem cell_far3 {w : World} {b : Nat} {x y z r : Value} {a : Addr} (hne : a.block ≠ b) (h : w.cell? a = some r) : (((w.setCell ⟨b, 0, none⟩ x).setCell ⟨b, 1, none⟩ y).setCell ⟨b, 2, none⟩ z).cell? a = some r := by
  rw [World.cell?_of_block (Below.heap_setCell _ _ _ _ hne), World.cell?_of_block (Below.heap_setCell _ _ _ _ hne), World.cell?_of_block (Below.heap_setCell _ _ _ _ hne)]
  exact h

theorem owns_far3 {w : World} {base base' b : Nat} {e : TypeId} {size : Nat} {v : Value} {n : Nat} {xs : List Value} {x y z : Value} (h : w.ownsRow base e size v n xs) (hb : b < base) (hbb : base' ≤ base) : (((w.setCell ⟨b, 0, none⟩ x).setCell ⟨b, 1, none⟩ y).setCell ⟨b, 2, none⟩ z).ownsRow base' e size v n xs :=
  owns_base (ownsRow_setCell_below (ownsRow_setCell_below (ownsRow_setCell_below h hb _) hb _) hb _) hbb
theorem below_far3 {w a : World} {B b : Nat} {x y z : Value} (h : Below B w a) (hb : B ≤ b) : Below B w (((a.setCell ⟨b, 0, none⟩ x).setCell ⟨b, 1, none⟩ y).setCell ⟨b, 2, none⟩ z) := ((h.setCell hb _).setCell hb _).setCell hb _

end Go.Proofs.Ytlpdgnhlhopmjaa
namespace Go.Proofs.Ytlpdgnhlhopmjaa
set_option linter.unusedSimpArgs false
set_option linter.unusedVariables false

/-- The sum of n values from k on. -/
def rowSum (P : Nat → Int) (k : Nat) : Nat → Int
  | 0 => 0
  | n + 1 => rowSum P k n + P (k + n)

/-- The sum of a rectangle of a page that is W wide: from (x, y) on, nx wide and ny high. -/
def rectSum (P : Nat → Int) (W y x nx : Nat) : Nat → Int
  | 0 => 0
  | n + 1 => rectSum P W y x nx n + rowSum P ((y + n) * W + x) nx

theorem rowSum_add (P : Nat → Int) (k a b : Nat) : rowSum P k (a + b) = rowSum P k a + rowSum P (k + a) b := by
  induction b with
  | zero => simp [rowSum]
  | succ n ih => rw [← Nat.add_assoc, rowSum, ih, rowSum, Nat.add_assoc k a n]; omega

theorem rectSum_addx (P : Nat → Int) (W y x a b n : Nat) : rectSum P W y x (a + b) n = rectSum P W y x a n + rectSum P W y (x + a) b n := by
  induction n with
  | zero => simp [rectSum]
  | succ n ih => simp only [rectSum, ih, rowSum_add, Nat.add_assoc]; omega

theorem rectSum_addy (P : Nat → Int) (W y x nx a b : Nat) : rectSum P W y x nx (a + b) = rectSum P W y x nx a + rectSum P W (y + a) x nx b := by
  induction b with
  | zero => simp [rectSum]
  | succ n ih => rw [← Nat.add_assoc, rectSum, ih, rectSum, Nat.add_assoc y a n]; omega

theorem rowSum_bounds (P : Nat → Int) (hP : ∀ j, 0 ≤ P j ∧ P j ≤ 255) (k n : Nat) : 0 ≤ rowSum P k n ∧ rowSum P k n ≤ 255 * n := by
  induction n with
  | zero => simp [rowSum]
  | succ n ih => have := hP (k + n); simp only [rowSum]; omega

theorem rectSum_bounds (P : Nat → Int) (hP : ∀ j, 0 ≤ P j ∧ P j ≤ 255) (W y x nx n : Nat) : 0 ≤ rectSum P W y x nx n ∧ rectSum P W y x nx n ≤ 255 * (nx * n : Nat) := by
  induction n with
  | zero => simp [rectSum]
  | succ n ih => have := rowSum_bounds P hP ((y + n) * W + x) nx; simp only [rectSum, Nat.mul_add, Nat.mul_one]; omega

/-- The four corners. -/
theorem rect_corners (P : Nat → Int) (W l t nx ny : Nat) :
    rectSum P W t l nx ny = rectSum P W 0 0 (l + nx) (t + ny) - rectSum P W 0 0 l (t + ny) - rectSum P W 0 0 (l + nx) t + rectSum P W 0 0 l t := by
  have h1 := rectSum_addx P W 0 0 l nx (t + ny)
  have h2 := rectSum_addx P W 0 0 l nx t
  have h3 := rectSum_addy P W 0 (0 + l) nx t ny
  simp only [Nat.zero_add] at h1 h2 h3
  omega

/-- What the list of sums holds at place k when rows above y and x values of row y are summed up. -/
def sumAt (P : Nat → Int) (W y x k : Nat) : Int := if k / (W + 1) ≤ y ∨ (k / (W + 1) = y + 1 ∧ k % (W + 1) ≤ x) then rectSum P W 0 0 (k % (W + 1)) (k / (W + 1)) else 0

def sumList (P : Nat → Int) (W H y x : Nat) : List Value := (List.range ((W + 1) * (H + 1))).map fun k => Value.int .i64 (sumAt P W y x k)

theorem rectSum_thin (P : Nat → Int) (W y x n : Nat) : rectSum P W y x 0 n = 0 := by
  induction n with
  | zero => rfl
  | succ n ih => simp [rectSum, ih, rowSum]

theorem sumList_start (P : Nat → Int) (W H : Nat) : sumList P W H 0 0 = List.replicate ((W + 1) * (H + 1)) (Value.int .i64 0) := by
  apply List.ext_getElem
  · simp [sumList]
  · intro k h1 h2
    simp only [sumList, List.getElem_map, List.getElem_range, List.getElem_replicate]
    congr 1
    unfold sumAt
    split
    · rename_i h
      rcases h with h | ⟨h, h'⟩
      · rw [Nat.le_zero.mp h]; rfl
      · rw [Nat.le_zero.mp h']; exact rectSum_thin ..
    · rfl

theorem divmod_at (W y x : Nat) (hx : x < W + 1) : (y * (W + 1) + x) / (W + 1) = y ∧ (y * (W + 1) + x) % (W + 1) = x := by
  rw [Nat.mul_comm]
  exact ⟨by rw [Nat.mul_add_div (by omega), Nat.div_eq_of_lt hx, Nat.add_zero], by rw [Nat.mul_add_mod, Nat.mod_eq_of_lt hx]⟩

theorem sumList_row (P : Nat → Int) (W H y : Nat) : sumList P W H y W = sumList P W H (y + 1) 0 := by
  unfold sumList
  apply List.map_congr_left
  intro k _
  congr 1
  unfold sumAt
  have hm : k % (W + 1) ≤ W := by have := Nat.mod_lt k (show 0 < W + 1 by omega); omega
  by_cases h : k / (W + 1) ≤ y + 1
  · rw [if_pos (by omega), if_pos (by omega)]
  · rw [if_neg (by omega)]
    split
    · rename_i h'
      rcases h' with h' | ⟨_, h'⟩
      · exact absurd h' h
      · rw [Nat.le_zero.mp h']; exact (rectSum_thin ..).symm
    · rfl

theorem sumList_step (P : Nat → Int) (W H y x : Nat) (hx : x < W) (hy : y < H) :
    (sumList P W H y x).set ((y + 1) * (W + 1) + x + 1) (Value.int .i64 (rectSum P W 0 0 (x + 1) (y + 1))) = sumList P W H y (x + 1) := by
  apply List.ext_getElem
  · simp [sumList]
  · intro k h1 h2
    rw [List.getElem_set]
    simp only [sumList, List.getElem_map, List.getElem_range]
    obtain ⟨d1, d2⟩ := divmod_at W (y + 1) (x + 1) (by omega)
    rw [← Nat.add_assoc] at d1 d2
    by_cases hk : (y + 1) * (W + 1) + x + 1 = k
    · rw [if_pos hk]
      subst hk
      unfold sumAt
      rw [d1, d2, if_pos (by omega)]
    · rw [if_neg hk]
      congr 1
      unfold sumAt
      have hne : ¬ (k / (W + 1) = y + 1 ∧ k % (W + 1) = x + 1) := by
        rintro ⟨e1, e2⟩
        apply hk
        have := Nat.div_add_mod k (W + 1)
        rw [e1, e2, Nat.mul_comm] at this
        omega
      by_cases hc : k / (W + 1) ≤ y ∨ (k / (W + 1) = y + 1 ∧ k % (W + 1) ≤ x)
      · rw [if_pos hc, if_pos (by omega)]
      · rw [if_neg hc, if_neg (by omega)]

theorem sumList_get (P : Nat → Int) (W H y x j i : Nat) (hi : i ≤ W) (hj : j ≤ H) (hd : j ≤ y ∨ (j = y + 1 ∧ i ≤ x)) : (sumList P W H y x)[j * (W + 1) + i]? = some (Value.int .i64 (rectSum P W 0 0 i j)) := by
  have hlt : j * (W + 1) + i < (W + 1) * (H + 1) := by
    have : (j + 1) * (W + 1) ≤ (H + 1) * (W + 1) := Nat.mul_le_mul_right _ (by omega)
    rw [Nat.add_mul j 1, Nat.one_mul] at this
    rw [Nat.mul_comm (W + 1) (H + 1)]
    omega
  obtain ⟨d1, d2⟩ := divmod_at W j i (by omega)
  unfold sumList
  rw [List.getElem?_map, List.getElem?_range hlt]
  simp only [Option.map_some]
  congr 2
  unfold sumAt
  rw [d1, d2, if_pos hd]

end Go.Proofs.Ytlpdgnhlhopmjaa
namespace Go.Proofs.Ytlpdgnhlhopmjaa
open Go.RowKit
set_option linter.unusedSimpArgs false
set_option linter.unusedVariables false

set_option maxHeartbeats 1000000 in
set_option maxRecDepth 100000 in
theorem sumsBefore_any (W H M g : Nat) (capt : Array Value) (P : Nat → Int) (w : World) (hM : M = (W + 1) * (H + 1)) (hP : ∀ j, 0 ≤ P j ∧ P j ≤ 255) (hW : 1 ≤ W) (hW' : W ≤ 4000) (hH : H ≤ 4000) (hN : W * H ≤ 1048576)
    (eg : ∀ (args : Array Value) (W : World), (callFunc g args).run Try.prog W = .ok (.enter g args) W)
    (hc : ∀ (x y : Nat) (W' : World), x < W → y < H → Below w.heap.size w W' → Calls Try.prog g (#[.int .i64 x, .int .i64 y] ++ capt) W' fun e W'' => e = .returned (.int .i64 (P (y * W + x))) ∧ Below W'.heap.size W' W'') :
    Calls Try.prog 60 #[.int .i64 W, .int .i64 H, .func (.func g) #[] capt] w fun e w' =>
      ∃ gg, e = .returned (.slice (some ⟨gg, 0, none⟩) M M) ∧ w'.ownsRow w.heap.size 3 1 (.slice (some ⟨gg, 0, none⟩) M M) M (sumList P W H H 0) ∧ Below w.heap.size w w' := by
  obtain ⟨i0, hi, hz0, hz1, hz2⟩ := info_parts info_int
  have hbig : M = W * H + W + H + 1 := by rw [hM]; simp only [Nat.add_mul, Nat.mul_add, Nat.one_mul, Nat.mul_one]; omega
  have hM' : M ≤ 1100000 := by omega
  have hMi : ((W : Int) + 1) * ((H : Int) + 1) = (M : Int) := by rw [hM]; simp [Int.natCast_mul]
  have m0 : (0 : Int) ≤ ((W : Int) + 1) * ((H : Int) + 1) := by omega
  have m1 : ((W : Int) + 1) * ((H : Int) + 1) ≤ 1100000 := by omega
  have HM := Lib.hid hM
  have HMi := Lib.hid hMi
  have HC := Lib.hid hc
  have HPb := Lib.hid hP
  clear hc hP hM hMi hbig
  go_enter Try.func60, Try.ntmps60
  go_wp2_with (at_make; refine wpList_make_full _ rfl _ _ 25 rfl w.heap.size 3 i0 (.int .i64 0) 1 Try.underlying25 hi hz0 hz1 _ _ _ _ M rfl rfl HMi.out HMi.out (by rw [hz2]; omega) (by unfold maxLen; omega) (Nat.le_refl _) ?_)
  intro w1 hown1 hgrow1
  have hb1 : Below w.heap.size w w1 := (Below.refl _ _).grown hgrow1 (Nat.le_refl _) (by simp)
  simp only [toList_madeCells_one, Nat.mul_one] at hown1
  rw [HM.out, ← sumList_start P W H, ← HM.out] at hown1
  clear hgrow1
  go_wp2
  go_loopw [20] (fun i wr => ∃ y : Nat, y ≤ H ∧ i = .int .i64 y ∧ wr.ownsRow w.heap.size 3 1 (.slice (some ⟨w.heap.size, 0, none⟩) M M) M (sumList P W H y 0) ∧ Below w.heap.size w wr) (fun i _ => H - (intOf i).toNat)
  case atStart => exact ⟨0, Nat.zero_le _, rfl, hown1, hb1⟩
  case round =>
    obtain ⟨y, hy, rfl, hown, hb⟩ := hrel
    clear hown1 hb1
    by_cases hlt : y < H
    · obtain ⟨wo, rfl⟩ : ∃ wo : World, wo = wr := ⟨_, rfl⟩
      go_wp2
      go_loopw [10, 24] (fun s i wr => ∃ x : Nat, x ≤ W ∧ i = .int .i64 x ∧ s = .int .i64 (rowSum P (y * W) x) ∧ wr.ownsRow w.heap.size 3 1 (.slice (some ⟨w.heap.size, 0, none⟩) M M) M (sumList P W H y x) ∧ Below w.heap.size w wr) (fun _ i _ => W - (intOf i).toNat)
      case atStart => exact ⟨0, Nat.zero_le _, rfl, rfl, hown, hb⟩
      case round =>
        obtain ⟨x, hx, rfl, rfl, hownr, hbr⟩ := hrel
        clear hown hb
        by_cases hltx : x < W
        · have hfit2 : (y + 1) * (W + 1) + x + 1 < M := by
            have := Nat.mul_le_mul_right (W + 1) (show y + 2 ≤ H + 1 by omega)
            rw [HM.out, Nat.mul_comm (W + 1) (H + 1)]
            rw [Nat.add_mul y 2] at this
            rw [Nat.add_mul y 1]
            omega
          have hfit3 : y * (W + 1) + x + 1 < M := by
            rw [Nat.add_mul y 1] at hfit2
            omega
          have hpv := HPb.out (y * W + x)
          have hrv := rowSum_bounds P HPb.out (y * W) x
          have hrc := rectSum_bounds P HPb.out W 0 0 (x + 1) y
          have hR1 := Lib.hid (show rowSum P (y * W) (x + 1) = rowSum P (y * W) x + P (y * W + x) from rfl)
          have hR2 := Lib.hid (show rectSum P W 0 0 (x + 1) (y + 1) = rectSum P W 0 0 (x + 1) y + rowSum P (y * W) (x + 1) by simp [rectSum])
          have HC' := Lib.hid (HC.out x y wr hltx hlt hbr)
          have hs0 := Lib.hid (sumList_get P W H y x y (x + 1) (by omega) (by omega) (Or.inl (Nat.le_refl _)))
          obtain ⟨p, hpe⟩ : ∃ p, p = P (y * W + x) := ⟨_, rfl⟩
          obtain ⟨s, hse⟩ : ∃ s, s = rowSum P (y * W) x := ⟨_, rfl⟩
          obtain ⟨r, hre⟩ : ∃ r, r = rectSum P W 0 0 (x + 1) y := ⟨_, rfl⟩
          rw [← hpe] at hpv HC'
          rw [← hse] at hrv ⊢
          rw [← hre] at hs0 hrc
          have E1 := Lib.hid hpe
          have E2 := Lib.hid hse
          have E3 := Lib.hid hre
          have HO := Lib.hid hownr
          have HBR := Lib.hid hbr
          clear hpe hse hre hownr hbr
          have hrc' : r ≤ 300000000 := by
            have := Nat.mul_le_mul (show x + 1 ≤ W by omega) (show y ≤ H by omega)
            omega
          have hrv' : s ≤ 300000000 := by omega
          have hrc0 := hrc.1
          have hrv0 := hrv.1
          clear hrc hrv
          have x2 : (0 : Int) ≤ (y : Int) * ((W : Int) + 1) := Int.mul_nonneg (by omega) (by omega)
          have x3 : (0 : Int) ≤ ((y : Int) + 1) * ((W : Int) + 1) := Int.mul_nonneg (by omega) (by omega)
          have x4 : ((y : Int) + 1) * ((W : Int) + 1) + (x : Int) + 1 < (M : Int) := by
            have : (((y + 1) * (W + 1) + x + 1 : Nat) : Int) < (M : Int) := by omega
            simpa [Int.natCast_mul] using this
          have x5 : (y : Int) * ((W : Int) + 1) + (x : Int) + 1 < (M : Int) := by
            have : ((y * (W + 1) + x + 1 : Nat) : Int) < (M : Int) := by omega
            simpa [Int.natCast_mul] using this
          have F2 := Lib.hid hfit2
          have F3 := Lib.hid hfit3
          clear m0 m1 hfit2 hfit3
          go_wp2_with fail
          go_at_fn g
          refine HC'.out.mono ?_
          rintro e w' ⟨rfl, hb'⟩
          have hown' := below_owns HO.out hb'
          have hbw' := HBR.out.trans (hb'.mono HBR.out.size)
          have hs := (hown'.cellAt (y * (W + 1) + x + 1) (by have := F3.out; omega)).trans hs0.out
          have ht := hown'.cellAt ((y + 1) * (W + 1) + x + 1) (by have := F2.out; omega)
          rw [List.getElem?_eq_getElem (by rw [hown'.1]; have := F2.out; omega)] at ht
          obtain ⟨t, hte⟩ : ∃ t, t = (sumList P W H y x)[(y + 1) * (W + 1) + x + 1]'(by rw [hown'.1]; have := F2.out; omega) := ⟨_, rfl⟩
          rw [← hte] at ht
          clear hte
          have hfz := hown'.frozenAt ((y + 1) * (W + 1) + x + 1)
          have HO' := Lib.hid hown'
          have HB' := Lib.hid hbw'
          clear hown' hbw' hb'
          go_wp2
          go_roundw
          case rel =>
            refine ⟨x + 1, by omega, by go_num, ?_, ?_, ?_⟩
            · rw [hR1.out, ← E1.out, ← E2.out]
            · have := (HO'.out.stored ((y + 1) * (W + 1) + x + 1) (.int .i64 (r + (s + p)))).1
              rw [show r + (s + p) = rectSum P W 0 0 (x + 1) (y + 1) by rw [hR2.out, hR1.out, ← E1.out, ← E2.out, ← E3.out], sumList_step P W H y x hltx hlt] at this
              rw [show r + (s + p) = rectSum P W 0 0 (x + 1) (y + 1) by rw [hR2.out, hR1.out, ← E1.out, ← E2.out, ← E3.out]]
              exact this
            · exact HB'.out.setCell (Nat.le_refl _) _
          case measure => simp [intOf]; omega
        · have hxe : x = W := by omega
          have HX := Lib.hid hxe
          clear hxe
          go_wp2
          go_roundw
          case rel => exact ⟨y + 1, by omega, by go_num, by have h := hownr; rw [HX.out, sumList_row] at h; exact h, hbr⟩
          case measure => simp [intOf]; omega
    · have HY := Lib.hid (show y = H by omega)
      go_wp2
      go_ret
      exact ⟨_, rfl, by have h := hown; rw [HY.out] at h; exact h, hb⟩

end Go.Proofs.Ytlpdgnhlhopmjaa
namespace Go.Proofs.Ytlpdgnhlhopmjaa
open Go.RowKit
set_option linter.unusedSimpArgs false
set_option linter.unusedVariables false

set_option maxRecDepth 100000 in
theorem sums1_any (x y W M sb gb g : Nat) (s : Int) (w : World) (hx : x ≤ 4000) (hy : y ≤ 4000) (hW : W ≤ 4000) (hM : y * (W + 1) + x < M) (hM' : M ≤ 20000000)
    (h1 : w.cell? ⟨sb, 0, none⟩ = some (.slice (some ⟨g, 0, none⟩) M M)) (h2 : w.cell? ⟨gb, 0, none⟩ = some (.int .i64 W)) (h3 : w.cell? ⟨g, y * (W + 1) + x, none⟩ = some (.int .i64 s)) :
    Calls Try.prog 61 #[.int .i64 x, .int .i64 y, .pointer (some ⟨sb, 0, none⟩), .pointer (some ⟨gb, 0, none⟩)] w fun e w' => e = .returned (.int .i64 s) ∧ w = w' := by
  have x2 : (0 : Int) ≤ (y : Int) * ((W : Int) + 1) := Int.mul_nonneg (by omega) (by omega)
  have x5 : (y : Int) * ((W : Int) + 1) + (x : Int) < (M : Int) := by
    have : ((y * (W + 1) + x : Nat) : Int) < (M : Int) := by omega
    simpa [Int.natCast_mul] using this
  clear hM
  go_enter Try.func61, Try.ntmps61
  go_wp2
  go_ret
  exact ⟨rfl, rfl⟩

theorem block4B {w : World} {b : Nat} {x y z u : Value} {t : TypeId} (h : w.heap[b]? = some (.cells #[x, y, z, u] t (0, 0))) :
    (w.cell? ⟨b, 0, none⟩ = some x ∧ w.cell? ⟨b, 1, none⟩ = some y ∧ w.cell? ⟨b, 2, none⟩ = some z ∧ w.cell? ⟨b, 3, none⟩ = some u) ∧ w.frozen? ⟨b, 0, none⟩ = false ∧ w.frozen? ⟨b, 1, none⟩ = false ∧ w.frozen? ⟨b, 2, none⟩ = false ∧ w.frozen? ⟨b, 3, none⟩ = false :=
  ⟨⟨by rw [cell_of_row w b 0 _ t (0, 0) h]; rfl, by rw [cell_of_row w b 1 _ t (0, 0) h]; rfl, by rw [cell_of_row w b 2 _ t (0, 0) h]; rfl, by rw [cell_of_row w b 3 _ t (0, 0) h]; rfl⟩, frozen_of_row w b 0 _ t h, frozen_of_row w b 1 _ t h, frozen_of_row w b 2 _ t h, frozen_of_row w b 3 _ t h⟩

set_option maxHeartbeats 800000 in
set_option maxRecDepth 100000 in
theorem sums2_any (L T p q W H M wb bb sb g : Nat) (s00 s01 s10 s11 : Int) (w : World) (hL : L + p ≤ W) (hT : T + q ≤ H) (hW : W ≤ 4000) (hH : H ≤ 4000)
    (hM : M = (W + 1) * (H + 1)) (hM' : M ≤ 20000000)
    (c2 : w.cell? ⟨wb, 0, none⟩ = some (.int .i64 W))
    (c4 : w.cell? ⟨bb, 0, none⟩ = some (.func (.func 61) #[] #[.pointer (some ⟨sb, 0, none⟩), .pointer (some ⟨wb, 0, none⟩)])) (c5 : w.cell? ⟨sb, 0, none⟩ = some (.slice (some ⟨g, 0, none⟩) M M))
    (e11 : w.cell? ⟨g, (T + q) * (W + 1) + (L + p), none⟩ = some (.int .i64 s11)) (e01 : w.cell? ⟨g, (T + q) * (W + 1) + L, none⟩ = some (.int .i64 s01)) (e10 : w.cell? ⟨g, T * (W + 1) + (L + p), none⟩ = some (.int .i64 s10)) (e00 : w.cell? ⟨g, T * (W + 1) + L, none⟩ = some (.int .i64 s00))
    (b11 : 0 ≤ s11 ∧ s11 ≤ 300000000) (b01 : 0 ≤ s01 ∧ s01 ≤ 300000000) (b10 : 0 ≤ s10 ∧ s10 ≤ 300000000) (b00 : 0 ≤ s00 ∧ s00 ≤ 300000000) (hs : 0 ≤ s11 - s01 - s10 + s00) (hs' : s11 - s01 - s10 + s00 ≤ 300000000) :
    Calls Try.prog 62 #[.agg #[.int .i64 L, .int .i64 T, .int .i64 p, .int .i64 q], .pointer (some ⟨bb, 0, none⟩)] w fun e w' =>
      e = .returned (.int .i64 (s11 - s01 - s10 + s00)) ∧ Below w.heap.size w w' := by
  have hin : ∀ Y X, Y ≤ H → X ≤ W → Y * (W + 1) + X < M := fun Y X hY hX => by
    have := Nat.mul_le_mul_right (W + 1) (show Y + 1 ≤ H + 1 by omega)
    rw [Nat.add_mul Y 1] at this
    rw [hM, Nat.mul_comm (W + 1) (H + 1)]
    omega
  obtain ⟨w1, hw1⟩ : ∃ w1, w1 = w.alloc (.cells #[.int .i64 L, .int .i64 T, .int .i64 p, .int .i64 q] 72) := ⟨_, rfl⟩
  have hb1 : Below w.heap.size w w1 := by rw [hw1]; exact new_below _ _
  have x1 : w1.heap[w.heap.size]? = some (.cells #[.int .i64 L, .int .i64 T, .int .i64 p, .int .i64 q] 72 (0, 0)) := by rw [hw1]; exact heap_alloc_new _ _
  have k2 := cell_later hb1 c2
  have k4 := cell_later hb1 c4
  have k5 := cell_later hb1 c5
  obtain ⟨R, hR⟩ : ∃ R, R = L + p := ⟨_, rfl⟩
  obtain ⟨B, hB⟩ : ∃ B, B = T + q := ⟨_, rfl⟩
  rw [← hR] at e11 e10
  rw [← hB] at e11 e01
  have k11 := cell_later hb1 e11
  have k01 := cell_later hb1 e01
  have k10 := cell_later hb1 e10
  have k00 := cell_later hb1 e00
  have d11 := fun n => sums1_any R B W M sb wb g s11 (w1.drewN n) (by omega) (by omega) hW (hin _ _ (by omega) (by omega)) hM' (by simp [k5]) (by simp [k2]) (by simp [k11])
  have d01 := fun n => sums1_any L B W M sb wb g s01 (w1.drewN n) (by omega) (by omega) hW (hin _ _ (by omega) (by omega)) hM' (by simp [k5]) (by simp [k2]) (by simp [k01])
  have d10 := fun n => sums1_any R T W M sb wb g s10 (w1.drewN n) (by omega) (by omega) hW (hin _ _ (by omega) (by omega)) hM' (by simp [k5]) (by simp [k2]) (by simp [k10])
  have d00 := fun n => sums1_any L T W M sb wb g s00 (w1.drewN n) (by omega) (by omega) hW (hin _ _ (by omega) (by omega)) hM' (by simp [k5]) (by simp [k2]) (by simp [k00])
  have D11 := Lib.hid d11
  have D01 := Lib.hid d01
  have D10 := Lib.hid d10
  have D00 := Lib.hid d00
  have HB1 := Lib.hid hb1
  obtain ⟨⟨j0, j1, j2, j3⟩, _, _, _, _⟩ := block4B x1
  have eR : (L : Int) + (p : Int) = (R : Int) := by omega
  have eB : (T : Int) + (q : Int) = (B : Int) := by omega
  have eR' : IntKind.i64.wrap ((L : Int) + (p : Int)) = (R : Int) := by rw [IntWalk.i64_in _ (by omega)]; exact eR
  have eB' : IntKind.i64.wrap ((T : Int) + (q : Int)) = (B : Int) := by rw [IntWalk.i64_in _ (by omega)]; exact eB
  clear d11 d01 d10 d00 hin e11 e01 e10 e00 hM k11 k01 k10 k00 k2 k5 c2 c4 c5 hb1 x1 hR hB
  go_enter Try.func62, Try.ntmps62
  go_upto_region 1 with (fail)
  rw [← hw1]
  clear hw1
  go_quiet (fail)
  go_wp2
  go_quiet ((first | (go_at_call 61; (with_reducible refine (D11.out _).mono ?_); rintro e w1 ⟨rfl, rfl⟩; exact ⟨rfl, _, rfl⟩) | (go_at_call 61; (with_reducible refine (D01.out _).mono ?_); rintro e w1 ⟨rfl, rfl⟩; exact ⟨rfl, _, rfl⟩) | (go_at_call 61; (with_reducible refine (D10.out _).mono ?_); rintro e w1 ⟨rfl, rfl⟩; exact ⟨rfl, _, rfl⟩) | (go_at_call 61; (with_reducible refine (D00.out _).mono ?_); rintro e w1 ⟨rfl, rfl⟩; exact ⟨rfl, _, rfl⟩)))
  go_wp2
  go_ret
  exact ⟨rfl, below_drewN (below_drewN HB1.out _) _⟩

end Go.Proofs.Ytlpdgnhlhopmjaa
namespace Go.Proofs.Ytlpdgnhlhopmjaa
open Go.RowKit
set_option linter.unusedSimpArgs false
set_option linter.unusedVariables false

/-- The sum of the square around (x, y), as far as it is in the page, and how many values it has. -/
def squareSum (P : Nat → Int) (W H r x y : Nat) : Int := rectSum P W (y - r) (x - r) (min (x + r + 1) W - (x - r)) (min (y + r + 1) H - (y - r))
def squareMany (W H r x y : Nat) : Int := (((min (x + r + 1) W : Nat) : Int) - ((x - r : Nat) : Int)) * (((min (y + r + 1) H : Nat) : Int) - ((y - r : Nat) : Int))

theorem squareSum_bounds (P : Nat → Int) (hP : ∀ j, 0 ≤ P j ∧ P j ≤ 255) (W H r x y : Nat) (hW : W ≤ 4000) (hH : H ≤ 4000) (hN : W * H ≤ 1048576) : 0 ≤ squareSum P W H r x y ∧ squareSum P W H r x y ≤ 300000000 := by
  have h1 := rectSum_bounds P hP W (y - r) (x - r) (min (x + r + 1) W - (x - r)) (min (y + r + 1) H - (y - r))
  have h2 := Nat.mul_le_mul (show min (x + r + 1) W - (x - r) ≤ W by omega) (show min (y + r + 1) H - (y - r) ≤ H by omega)
  unfold squareSum
  omega

/-- The contract of page.Sums: the function value that it returns tells the sum of the values in a box. -/
def SumsOf (P : Nat → Int) (W H bb : Nat) (w' : World) : Prop :=
  ∀ (L T p q : Nat) (W' : World), L + p ≤ W → T + q ≤ H → Below w'.heap.size w' W' → Calls Try.prog 62 #[.agg #[.int .i64 L, .int .i64 T, .int .i64 p, .int .i64 q], .pointer (some ⟨bb, 0, none⟩)] W' fun e W'' =>
    e = .returned (.int .i64 (rectSum P W T L p q)) ∧ Below W'.heap.size W' W''

set_option maxHeartbeats 800000 in
set_option maxRecDepth 100000 in
theorem sums_any (W H g : Nat) (capt : Array Value) (P : Nat → Int) (w : World) (hP : ∀ j, 0 ≤ P j ∧ P j ≤ 255) (hW : 1 ≤ W) (hW' : W ≤ 4000) (hH : H ≤ 4000) (hN : W * H ≤ 1048576)
    (eg : ∀ (args : Array Value) (W : World), (callFunc g args).run Try.prog W = .ok (.enter g args) W)
    (hc : ∀ (x y : Nat) (W' : World), x < W → y < H → Below w.heap.size w W' → Calls Try.prog g (#[.int .i64 x, .int .i64 y] ++ capt) W' fun e W'' => e = .returned (.int .i64 (P (y * W + x))) ∧ Below W'.heap.size W' W'') :
    Calls Try.prog 50 #[.int .i64 W, .int .i64 H, .func (.func g) #[] capt] w fun e w' =>
      ∃ bb : Nat, e = .returned (.func (.func 62) #[] #[.pointer (some ⟨bb, 0, none⟩)]) ∧ Below w.heap.size w w' ∧ SumsOf P W H bb w' := by
  have hmf : ∀ (fn : Fn) (first cap : Array Value) (w : World), (Instr.makeFunc fn first cap).run Try.prog w = .ok (.func fn first cap) w := fun _ _ _ _ => rfl
  have HP := Lib.hid hP
  have HC := Lib.hid hc
  clear hP hc
  go_enter Try.func50, Try.ntmps50
  go_wp2_with fail
  obtain ⟨w3, hw3⟩ : ∃ w3, w3 = (w.alloc (.cells #[.int .i64 W] 3)) := ⟨_, rfl⟩
  have B3 : Below w.heap.size w w3 := by rw [hw3]; exact new_below _ _
  have q0 : w3.cell? ⟨w.heap.size, 0, none⟩ = some (.int .i64 W) := by rw [hw3]; go_simp
  rw [← hw3]
  clear hw3
  refine (sumsBefore_any W H _ g capt P w3 rfl HP.out (by omega) (by omega) (by omega) hN eg (fun x y W' hx hy hb => HC.out x y W' hx hy (below_step B3 hb))).mono ?_
  rintro e w1 ⟨g, rfl, hown, hb⟩
  have k0 := cell_later hb q0
  have B1 := below_step B3 hb
  obtain ⟨M, hM⟩ : ∃ M, M = (W + 1) * (H + 1) := ⟨_, rfl⟩
  rw [← hM] at hown ⊢
  have E1 := Lib.hid hM
  have E2 := Lib.hid B1
  have E3 := Lib.hid hown
  clear q0 hb B3 hM B1 hown
  go_wp2_with fail
  go_ret
  refine ⟨_, rfl, below_step E2.out (below_alloc (new_below _ _) _), ?_⟩
  intro L T p q W' hL hT hbx
  have B4 : Below w1.heap.size w1 W' := below_step (below_alloc (new_below _ _) _) hbx
  have hsum : ∀ j i, j ≤ H → i ≤ W → W'.cell? ⟨g, j * (W + 1) + i, none⟩ = some (.int .i64 (rectSum P W 0 0 i j)) := fun j i hj hi => by
    have hlt : j * (W + 1) + i < M := by
      have := Nat.mul_le_mul_right (W + 1) (show j + 1 ≤ H + 1 by omega)
      rw [Nat.add_mul j 1] at this
      rw [E1.out, Nat.mul_comm (W + 1) (H + 1)]
      omega
    exact cell_later B4 ((E3.out.cellAt (j * (W + 1) + i) (by omega)).trans (sumList_get P W H H 0 j i hi hj (Or.inl hj)))
  have hbd : ∀ j i, j ≤ H → i ≤ W → 0 ≤ rectSum P W 0 0 i j ∧ rectSum P W 0 0 i j ≤ 300000000 := fun j i hj hi => by
    have h1 := rectSum_bounds P HP.out W 0 0 i j
    have h2 := Nat.mul_le_mul hi hj
    omega
  have hM20 : M ≤ 20000000 := by
    have : M = W * H + W + H + 1 := by rw [E1.out]; simp only [Nat.add_mul, Nat.mul_add, Nat.one_mul, Nat.mul_one]; omega
    omega
  have hcn := rect_corners P W L T p q
  have hr1 := rectSum_bounds P HP.out W T L p q
  have hr2 := Nat.mul_le_mul (show p ≤ W by omega) (show q ≤ H by omega)
  refine (sums2_any L T p q W H M w.heap.size (w1.heap.size + 1) w1.heap.size g
    (rectSum P W 0 0 L T) (rectSum P W 0 0 L (T + q)) (rectSum P W 0 0 (L + p) T) (rectSum P W 0 0 (L + p) (T + q)) W' hL hT (by omega) (by omega) E1.out hM20
    (cell_later B4 k0) (cell_later hbx (by go_simp)) (cell_later hbx (by go_simp))
    (hsum _ _ (by omega) (by omega)) (hsum _ _ (by omega) (by omega)) (hsum _ _ (by omega) (by omega)) (hsum _ _ (by omega) (by omega))
    (hbd _ _ (by omega) (by omega)) (hbd _ _ (by omega) (by omega)) (hbd _ _ (by omega) (by omega)) (hbd _ _ (by omega) (by omega)) (by omega) (by omega)).mono ?_
  rintro e wy ⟨rfl, hy⟩
  rw [hcn]
  exact ⟨rfl, hy⟩

set_option maxHeartbeats 800000 in
set_option maxRecDepth 100000 in
theorem around1_any (x y W H r L R T B rb wb hb tb bb : Nat) (su : Int) (w : World) (hx : x < W) (hy : y < H) (hW : W ≤ 4000) (hH : H ≤ 4000) (hr : r ≤ 200)
    (hL : max ((x : Int) - (r : Int)) 0 = (L : Int)) (hR : min ((x : Int) + (r : Int) + 1) (W : Int) = (R : Int)) (hT : max ((y : Int) - (r : Int)) 0 = (T : Int)) (hB : min ((y : Int) + (r : Int) + 1) (H : Int) = (B : Int))
    (c1 : w.cell? ⟨rb, 0, none⟩ = some (.int .i64 r)) (c2 : w.cell? ⟨wb, 0, none⟩ = some (.int .i64 W)) (c3 : w.cell? ⟨hb, 0, none⟩ = some (.int .i64 H))
    (c4 : w.cell? ⟨tb, 0, none⟩ = some (.func (.func 62) #[] #[.pointer (some ⟨bb, 0, none⟩)]))
    (hc : ∀ w', Below w.heap.size w w' → Calls Try.prog 62 #[.agg #[.int .i64 L, .int .i64 T, .int .i64 ((R : Int) - L), .int .i64 ((B : Int) - T)], .pointer (some ⟨bb, 0, none⟩)] w' fun e w'' => e = .returned (.int .i64 su) ∧ Below w'.heap.size w' w'') :
    Calls Try.prog 51 #[.int .i64 x, .int .i64 y, .pointer (some ⟨rb, 0, none⟩), .pointer (some ⟨wb, 0, none⟩), .pointer (some ⟨hb, 0, none⟩), .pointer (some ⟨tb, 0, none⟩)] w fun e w' =>
      e = .returned (.tuple #[.int .i64 su, .int .i64 (((R : Int) - L) * ((B : Int) - T))]) ∧ Below w.heap.size w w' := by
  have bL : L ≤ x := by omega
  have bR : x < R ∧ R ≤ W := by omega
  have bT : T ≤ y := by omega
  have bB : y < B ∧ B ≤ H := by omega
  have p1 : 1 ≤ (R : Int) - L := by omega
  have p2 : 1 ≤ (B : Int) - T := by omega
  have p3 : 1 ≤ ((R : Int) - L) * ((B : Int) - T) := Int.le_trans (by decide : (1:Int) ≤ 1 * 1) (Int.mul_le_mul p1 p2 (by decide) (by omega))
  have p4 : ((R : Int) - L) * ((B : Int) - T) ≤ 16000000 := Int.le_trans (Int.mul_le_mul (by omega : (R : Int) - L ≤ 4000) (by omega : (B : Int) - T ≤ 4000) (by omega) (by decide)) (by decide)
  have p5 : IntKind.i64.wrap (((R : Int) - L) * ((B : Int) - T)) = ((R : Int) - L) * ((B : Int) - T) := IntWalk.i64_in _ (by omega)
  have HC := Lib.hid hc
  have C4 := Lib.hid c4
  clear hc c4
  go_enter Try.func51, Try.ntmps51
  go_wp2
  go_quiet (fail)
  go_wp2
  go_quiet (fail)
  go_upto_region 3 with (fail)
  generalize hw1 : World.drewN w _ = w1
  generalize hw2 : World.drewN w1 _ = w2
  have HB2 := Lib.hid (show Below w.heap.size w w2 by rw [← hw2, ← hw1]; exact below_drewN (below_drewN (Below.refl _ _) _) _)
  clear hw1 hw2 c1 c2 c3
  go_upto_region 4 with (fail)
  obtain ⟨w3, hw3⟩ : ∃ w3, w3 = w2.alloc (.cells #[.int .i64 L, .int .i64 T, .int .i64 ((R : Int) - L), .int .i64 ((B : Int) - T)] 72) := ⟨_, rfl⟩
  have hb3 : Below w2.heap.size w2 w3 := by rw [hw3]; exact new_below _ _
  have x3 : w3.heap[w2.heap.size]? = some (.cells #[.int .i64 L, .int .i64 T, .int .i64 ((R : Int) - L), .int .i64 ((B : Int) - T)] 72 (0, 0)) := by rw [hw3]; exact heap_alloc_new _ _
  have B3 := Lib.hid (below_step HB2.out hb3)
  have c4 := cell_later B3.out C4.out
  obtain ⟨bx, hbx⟩ : ∃ bx, bx = w2.heap.size := ⟨_, rfl⟩
  rw [← hw3, ← hbx]
  rw [← hbx] at x3
  obtain ⟨⟨j0, j1, j2, j3⟩, _, _, _, _⟩ := block4B x3
  have HS := Lib.hid (fun wx (hb : Below w3.heap.size w3 wx) => And.intro (cell_later hb c4) (block4B (below_block hb x3)).1)
  clear hw3 hb3 x3 hbx
  go_region_held3 (fun w' => w'.cell? ⟨tb, 0, none⟩ = some (.func (.func 62) #[] #[.pointer (some ⟨bb, 0, none⟩)]) ∧ w'.cell? ⟨bx, 0, none⟩ = some (.int .i64 L) ∧ w'.cell? ⟨bx, 1, none⟩ = some (.int .i64 T) ∧ w'.cell? ⟨bx, 2, none⟩ = some (.int .i64 ((R : Int) - L)) ∧ w'.cell? ⟨bx, 3, none⟩ = some (.int .i64 ((B : Int) - T)))
    (first | (go_keep; done) | (refine HS.out _ ?_; (repeat (first | with_reducible exact Below.refl _ _ | with_reducible assumption | with_reducible refine below_alloc ?_ _ | with_reducible refine Below.drew ?_ | with_reducible refine below_step ?_ (by assumption))); done))
    ((first | (go_at_call 62; ((with_reducible refine (HC.out _ B3.out.drew).mono ?_); rintro e w6 ⟨rfl, hb6⟩))))
  have G := Lib.hid (below_step B3.out (below_step (Below.refl w3.heap.size w3).drew hb6))
  clear hb6
  go_wp2_with fail
  go_ret2
  exact ⟨by first | rfl | rw [p5], G.out⟩

set_option maxHeartbeats 800000 in
set_option maxRecDepth 100000 in
theorem around_any (W H r g : Nat) (capt : Array Value) (P : Nat → Int) (w : World) (hP : ∀ j, 0 ≤ P j ∧ P j ≤ 255) (hW : 1 ≤ W) (hW' : W ≤ 4000) (hH : H ≤ 4000) (hN : W * H ≤ 1048576) (hr : r ≤ 200)
    (eg : ∀ (args : Array Value) (W : World), (callFunc g args).run Try.prog W = .ok (.enter g args) W)
    (hc : ∀ (x y : Nat) (W' : World), x < W → y < H → Below w.heap.size w W' → Calls Try.prog g (#[.int .i64 x, .int .i64 y] ++ capt) W' fun e W'' => e = .returned (.int .i64 (P (y * W + x))) ∧ Below W'.heap.size W' W'') :
    Calls Try.prog 26 #[.int .i64 W, .int .i64 H, .int .i64 r, .func (.func g) #[] capt] w fun e w' =>
      ∃ c2 : Array Value, e = .returned (.func (.func 51) #[] c2) ∧ Below w.heap.size w w' ∧
        ∀ (x y : Nat) (W' : World), x < W → y < H → Below w'.heap.size w' W' → Calls Try.prog 51 (#[.int .i64 x, .int .i64 y] ++ c2) W' fun e W'' =>
          e = .returned (.tuple #[.int .i64 (squareSum P W H r x y), .int .i64 (squareMany W H r x y)]) ∧ Below W'.heap.size W' W'' := by
  have hmf : ∀ (fn : Fn) (first cap : Array Value) (w : World), (Instr.makeFunc fn first cap).run Try.prog w = .ok (.func fn first cap) w := fun _ _ _ _ => rfl
  have HP := Lib.hid hP
  have HC := Lib.hid hc
  clear hP hc
  go_enter Try.func26, Try.ntmps26
  go_wp2_with fail
  obtain ⟨w3, hw3⟩ : ∃ w3, w3 = (((w.alloc (.cells #[.int .i64 W] 3)).alloc (.cells #[.int .i64 H] 3)).alloc (.cells #[.int .i64 r] 3)) := ⟨_, rfl⟩
  have B3 : Below w.heap.size w w3 := by rw [hw3]; exact below_alloc (below_alloc (new_below _ _) _) _
  have q0 : w3.cell? ⟨w.heap.size, 0, none⟩ = some (.int .i64 W) := by rw [hw3]; go_simp
  have q1 : w3.cell? ⟨w.heap.size + 1, 0, none⟩ = some (.int .i64 H) := by rw [hw3]; go_simp
  have q2 : w3.cell? ⟨w.heap.size + 2, 0, none⟩ = some (.int .i64 r) := by rw [hw3]; go_simp
  rw [← hw3]
  clear hw3
  refine (sums_any W H g capt P w3 HP.out (by omega) (by omega) (by omega) hN eg (fun x y W' hx hy hb => HC.out x y W' hx hy (below_step B3 hb))).mono ?_
  rintro e w1 ⟨bb, rfl, hb, hso⟩
  have k0 := cell_later hb q0
  have k1 := cell_later hb q1
  have k2 := cell_later hb q2
  have E2 := Lib.hid (below_step B3 hb)
  have HSO := Lib.hid hso
  clear q0 q1 q2 hb B3 hso
  go_wp2_with fail
  go_ret
  refine ⟨_, rfl, below_step E2.out (new_below _ _), ?_⟩
  intro x y W' hx hy hbx
  have B4 : Below w1.heap.size w1 W' := below_step (new_below _ _) hbx
  have hbd := squareSum_bounds P HP.out W H r x y (by omega) (by omega) hN
  refine (around1_any x y W H r (x - r) (min (x + r + 1) W) (y - r) (min (y + r + 1) H) (w.heap.size + 2) w.heap.size (w.heap.size + 1) w1.heap.size bb (squareSum P W H r x y) W' hx hy (by omega) (by omega) hr
    (by omega) (by omega) (by omega) (by omega) (cell_later B4 k2) (cell_later B4 k0) (cell_later B4 k1) (cell_later hbx (by go_simp)) (fun w' hw' => ?_)).mono ?_
  · have := HSO.out (x - r) (y - r) (min (x + r + 1) W - (x - r)) (min (y + r + 1) H - (y - r)) w' (by omega) (by omega) (below_step B4 hw')
    rw [show (((min (x + r + 1) W - (x - r) : Nat)) : Int) = ((min (x + r + 1) W : Nat) : Int) - ((x - r : Nat) : Int) by omega, show (((min (y + r + 1) H - (y - r) : Nat)) : Int) = ((min (y + r + 1) H : Nat) : Int) - ((y - r : Nat) : Int) by omega] at this
    exact this
  · rintro e wy ⟨rfl, hy'⟩
    exact ⟨rfl, hy'⟩

end Go.Proofs.Ytlpdgnhlhopmjaa
namespace Go.Proofs.Ytlpdgnhlhopmjaa
open Go.RowKit
set_option linter.unusedSimpArgs false
set_option linter.unusedVariables false

/-- Ink at a place, also beyond a page. -/
def atB (W H : Nat) (z : Nat → Bool) (x y : Int) : Bool := if (0 ≤ x ∧ x ≤ (W : Int) - 1) ∧ (0 ≤ y ∧ y ≤ (H : Int) - 1) then z (y.toNat * W + x.toNat) else false

theorem at_in (W H g o c x y : Nat) (q : Bool) (w : World) (hW : W ≤ 10000) (hH : H ≤ 10000) (hx : x < W) (hy : y < H) (hc : w.cell? ⟨g, o + (y * W + x), none⟩ = some (.bool q)) :
    Calls Try.prog 59 #[.agg #[.int .i64 W, .int .i64 H, .slice (some ⟨g, o, none⟩) (W * H) c], .int .i64 x, .int .i64 y] w fun e w' => e = .returned (.bool q) ∧ Below w.heap.size w w' := by
  have hcl := World.block_lt_of_cell? _ _ hc
  simp only at hcl
  have m0 : (0 : Int) ≤ (y : Int) * (W : Int) := Int.mul_nonneg (by omega) (by omega)
  have hfit := row_fits hy (show x + 1 ≤ W by omega)
  have m2 : (y : Int) * (W : Int) + (x : Int) < ((W * H : Nat) : Int) := by rw [← Int.natCast_mul]; omega
  have hN := Nat.mul_le_mul hW hH
  have m1 : (y : Int) * (W : Int) + (x : Int) < (W : Int) * (H : Int) := by rw [← Int.natCast_mul, ← Int.natCast_mul]; omega
  have m3 : (W : Int) * (H : Int) ≤ 100000000 := by rw [← Int.natCast_mul]; omega
  clear hfit hN
  go_enter Try.func59, Try.ntmps59
  go_wp2_with (first | (go_at_call 10; refine (in_yes _ _ _ _ (by omega)).mono ?_; rintro e w' ⟨rfl, rfl⟩))
  go_ret
  exact ⟨rfl, new_below _ _⟩

theorem at_out (W H g o n c : Nat) (x y : Int) (s : Option Addr) (w : World) (hW : W ≤ 10000) (hH : H ≤ 10000) (h : ¬ ((0 ≤ x ∧ x ≤ (W : Int) - 1) ∧ (0 ≤ y ∧ y ≤ (H : Int) - 1))) :
    Calls Try.prog 59 #[.agg #[.int .i64 W, .int .i64 H, .slice s n c], .int .i64 x, .int .i64 y] w fun e w' => e = .returned (.bool false) ∧ Below w.heap.size w w' := by
  by_cases hx : 0 ≤ x ∧ x ≤ (W : Int) - 1
  · have HY := Lib.hid (show ¬ (0 ≤ y ∧ y ≤ (H : Int) - 1) from fun k => h ⟨hx, k⟩)
    have HX := Lib.hid hx
    clear h hx
    go_enter Try.func59, Try.ntmps59
    go_wp2_with (first | (go_at_call 10; refine (in_no _ _ _ _ (by have := HY.out; omega)).mono ?_; rintro e w' ⟨rfl, rfl⟩) | (go_at_call 10; refine (in_yes _ _ _ _ (by have := HX.out; omega)).mono ?_; rintro e w' ⟨rfl, rfl⟩))
    go_ret
    exact ⟨rfl, new_below _ _⟩
  · have HX := Lib.hid hx
    clear h hx
    go_enter Try.func59, Try.ntmps59
    go_wp2_with (first | (go_at_call 10; refine (in_no _ _ _ _ (by have := HX.out; omega)).mono ?_; rintro e w' ⟨rfl, rfl⟩))
    go_ret
    exact ⟨rfl, new_below _ _⟩

end Go.Proofs.Ytlpdgnhlhopmjaa
namespace Go.Proofs.Ytlpdgnhlhopmjaa
open Go.RowKit
set_option linter.unusedSimpArgs false
set_option linter.unusedVariables false

set_option maxHeartbeats 800000 in
set_option maxRecDepth 100000 in
theorem fillBool_any (w h g : Nat) (capt : Array Value) (f : Nat → Nat → Bool) (W0 : World) (hw : 1 ≤ w) (hw' : w ≤ 10000000) (hh : h ≤ 10000000) (hN : w * h ≤ 10000000)
    (eg : ∀ (args : Array Value) (W : World), (callFunc g args).run Try.prog W = .ok (.enter g args) W)
    (hc : ∀ (x y : Nat) (W : World), x < w → y < h → Below W0.heap.size W0 W → Calls Try.prog g (#[.int .i64 x, .int .i64 y] ++ capt) W fun e W' => e = .returned (.bool (f x y)) ∧ Below W.heap.size W W') :
    Calls Try.prog 38 #[.int .i64 w, .int .i64 h, .func (.func g) #[] capt] W0 fun e W' =>
      ∃ v, e = .returned v ∧ W'.ownsRow W0.heap.size 4 1 v (w * h) ((places w f (w * h)).map (Value.bool)) ∧ Below W0.heap.size W0 W' := by
  obtain ⟨i0, hi, hz0, hz1, hz2⟩ := info_parts info_bool
  have m0 : (0 : Int) ≤ (w : Int) * (h : Int) := Int.mul_nonneg (by omega) (by omega)
  have m1 : (w : Int) * (h : Int) ≤ 10000000 := by rw [← Int.natCast_mul]; omega
  have HC := Lib.hid hc
  clear hc
  go_enter Try.func38, Try.ntmps38
  go_wp2_with (at_make; refine wpList_make_own _ rfl _ _ 38 rfl W0.heap.size 4 i0 (.bool false) 1 Try.underlying38 hi hz0 hz1 _ _ _ (w * h) rfl rfl (by rw [Int.natCast_mul]) (by rw [hz2]; omega) (by unfold maxLen; omega) (Nat.le_refl _) ?_)
  intro w1 hown1 hgrow1
  have hb1 : Below W0.heap.size W0 w1 := (Below.refl _ _).grown hgrow1 (Nat.le_refl _) (by simp)
  clear hgrow1
  go_wp2
  go_loopw [7, 15] (fun v i wr => ∃ y : Nat, y ≤ h ∧ i = .int .i64 y ∧ wr.ownsRow W0.heap.size 4 1 v (y * w) ((places w f (y * w)).map (Value.bool)) ∧ Below W0.heap.size W0 wr) (fun _ i _ => h - (intOf i).toNat)
  case atStart => exact ⟨0, Nat.zero_le _, rfl, by simpa [places] using hown1, hb1⟩
  case round =>
    obtain ⟨y, hy, rfl, hown, hb⟩ := hrel
    clear hown1 hb1
    by_cases hlt : y < h
    · obtain ⟨wo, rfl⟩ : ∃ wo : World, wo = wr := ⟨_, rfl⟩
      go_wp2
      go_loopw [7, 19] (fun v i wr => ∃ x : Nat, x ≤ w ∧ i = .int .i64 x ∧ wr.ownsRow W0.heap.size 4 1 v (y * w + x) ((places w f (y * w + x)).map (Value.bool)) ∧ Below W0.heap.size W0 wr) (fun _ i _ => w - (intOf i).toNat)
      case atStart => exact ⟨0, Nat.zero_le _, rfl, by simpa using hown, hb⟩
      case round =>
        obtain ⟨x, hx, rfl, hownr, hbr⟩ := hrel
        clear hown hb
        by_cases hltx : x < w
        · have HC' := HC.out x y
          have hfit := row_fits hlt (show x + 1 ≤ w by omega)
          go_wp2_with (first | (go_at_fn g; refine (HC' _ hltx hlt hbr).mono ?_; rintro e w' ⟨rfl, hb'⟩; have hown' := below_owns hownr hb') | (at_builtin; refine wpList_append_own _ rfl _ _ 38 rfl W0.heap.size 4 i0 (.bool false) 1 1 Try.underlying38 hi hz0 hz1 hz2 rfl (by decide) _ _ _ rfl (hown'.alloc _) ⟨w'.heap.size, 0, none⟩ 1 1 [.bool (f x y)] rfl rfl ?c1 ?c2 ?c3 ?c4 ?c5 ?_))
          case c1 => exact cell_one_new _ _ _
          case c2 => intro u hu; simp at hu; subst hu; rfl
          case c3 => unfold maxLen; omega
          case c4 => omega
          case c5 => have h1 := hbr.size; have h2 := hb'.size; simp; omega
          · intro v' w2 hown2 hgr2 _
            have hb2 : Below W0.heap.size W0 w2 := (((hbr.trans (hb'.mono hbr.size))).alloc (Nat.le_trans hbr.size hb'.size) _).grown hgr2 (by have h1 := hbr.size; have h2 := hb'.size; simp; omega) (fun k hk => (hown'.lt k hk).1)
            have hp := Lib.hid (places_succ w f x y hltx)
            clear hgr2 hown' hownr hbr hb' HC'
            go_wp2
            go_roundw
            case rel => exact ⟨x + 1, by omega, by go_num, by rw [← Nat.add_assoc, hp.out, List.map_append]; exact hown2, hb2⟩
            case measure => simp [intOf]; omega
        · have hxe := Lib.hid (show x = w by omega)
          go_wp2
          go_roundw
          case rel => exact ⟨y + 1, by omega, by go_num, by rw [show (y + 1) * w = y * w + x by rw [hxe.out, Nat.add_mul, Nat.one_mul]]; exact hownr, hbr⟩
          case measure => simp [intOf]; omega
    · have hye := Lib.hid (show y = h by omega)
      go_wp2
      go_ret
      exact ⟨_, rfl, by rw [Nat.mul_comm w h, ← hye.out]; exact hown, hb⟩

end Go.Proofs.Ytlpdgnhlhopmjaa
