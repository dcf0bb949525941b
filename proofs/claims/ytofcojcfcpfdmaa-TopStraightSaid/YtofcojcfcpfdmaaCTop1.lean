/-
  What top_straight_holds leans on: contracts of the functions that it calls.
-/
import Derived.Test.YtofcojcfcpfdmaaRows
import Derived.WalkKit
import Derived.WalkSpells
import Derived.WalkLawsBesides
import Derived.Lib.Hide
import Derived.Deep.RegionHeld3
import Derived.Shelf.Abstract
import Derived.Deep.AppendLies
import Derived.Deep.DrawnRows
import Derived.Deep.RegionLaw
import Derived.Deep.QuietTactic
import Derived.BigQuiet
import Derived.ProofKit
import Derived.OpenShut
import Derived.ShutString
import Derived.ChangeOld
import Derived.Lib.SmallJoins
import Derived.Deep.Grids
import Derived.Deep.DeepCutAuto
import Derived.Lib.MinMax
import Derived.Deep.CutRange
import Derived.Laws.EntriesVeiled
import Derived.StillTailTactics
namespace Go.Proofs.Ytofcojcfcpfdmaa
open Go.RowKit
set_option linter.unusedSimpArgs false
set_option linter.unusedVariables false

theorem ret_int {k : IntKind} {a b : Int} (h : a = b) : Ending.returned (.int k a) = .returned (.int k b) := by rw [h]
theorem ret_bool {a b : Bool} (h : a = b) : Ending.returned (.bool a) = .returned (.bool b) := by rw [h]

theorem outside_no (n a b : Int) (w : World) (h : a ≤ n ∧ n ≤ b) : Calls Try.prog 56 #[.int .i64 n, .int .i64 a, .int .i64 b] w fun r w' => r = .returned (.bool false) ∧ w = w' := by
  obtain ⟨h1, h2⟩ := h
  have h3 : ¬ n < a := by omega
  have h4 : ¬ b < n := by omega
  go_enter Try.func56, Try.ntmps56
  go_wp2
  go_ret
  exact ⟨rfl, rfl⟩
theorem outside_yes (n a b : Int) (w : World) (h : ¬ (a ≤ n ∧ n ≤ b)) : Calls Try.prog 56 #[.int .i64 n, .int .i64 a, .int .i64 b] w fun r w' => r = .returned (.bool true) ∧ w = w' := by
  by_cases h1 : n < a
  · clear h
    go_enter Try.func56, Try.ntmps56
    go_wp2
    go_ret
    exact ⟨rfl, rfl⟩
  · have h4 : b < n := by omega
    clear h
    go_enter Try.func56, Try.ntmps56
    go_wp2
    go_ret
    exact ⟨rfl, rfl⟩
theorem outsideS_no (n a b : Int) (w : World) (h : a ≤ n ∧ n ≤ b) : Calls Try.prog 56 #[.int .i64 n, .int .i64 a, .int .i64 b] w fun r w' => r = .returned (.bool false) ∧ w = w' := outside_no n a b w h
theorem outsideS_yes (n a b : Int) (w : World) (h : ¬ (a ≤ n ∧ n ≤ b)) : Calls Try.prog 56 #[.int .i64 n, .int .i64 a, .int .i64 b] w fun r w' => r = .returned (.bool true) ∧ w = w' := outside_yes n a b w h

/-- The error of a size. -/
def sizeErr (w h : Int) : Int := if w < 1 ∨ h < 1 ∨ 4000 < w ∨ 4000 < h then 3 else if 1048576 < w * h then 4 else 0

theorem mul_small {a b : Int} (ha : 1 ≤ a) (hb : 1 ≤ b) (ha' : a ≤ 4000) (hb' : b ≤ 4000) : 0 ≤ a * b ∧ a * b ≤ 16000000 := by
  refine ⟨Int.mul_nonneg (by omega) (by omega), ?_⟩
  have := Int.mul_le_mul ha' hb' (by omega) (by omega : (0:Int) ≤ 4000)
  omega

set_option maxRecDepth 100000 in
theorem checkSize_any (a b : Int) (w : World) : Calls Try.prog 70 #[.int .i64 a, .int .i64 b] w fun r w' => r = .returned (.int .i64 (sizeErr a b)) ∧ w = w' := by
  by_cases h1 : 1 ≤ a ∧ a ≤ 4000
  · have H1 := Lib.hid h1
    by_cases h2 : 1 ≤ b ∧ b ≤ 4000
    · have H2 := Lib.hid h2
      have hm := mul_small (by omega : 1 ≤ a) (by omega : 1 ≤ b) (by omega) (by omega)
      have hw : wrap64 (a * b) = a * b := by unfold wrap64; omega
      by_cases h5 : 1048576 < a * b
      · have HS := Lib.hid (show sizeErr a b = 4 by unfold sizeErr; rw [if_neg (by omega), if_pos h5])
        clear h1 h2
        go_enter Try.func70, Try.ntmps70
        go_wp2_with (first | (go_at_call 56; (with_reducible refine (outside_no a 1 4000 _ H1.out).mono ?_); rintro e w' ⟨rfl, rfl⟩) | (go_at_call 56; (with_reducible refine (outside_no b 1 4000 _ H2.out).mono ?_); rintro e w' ⟨rfl, rfl⟩))
        go_ret
        exact ⟨ret_int HS.out.symm, rfl⟩
      · have HS := Lib.hid (show sizeErr a b = 0 by unfold sizeErr; rw [if_neg (by omega), if_neg h5])
        clear h1 h2
        go_enter Try.func70, Try.ntmps70
        go_wp2_with (first | (go_at_call 56; (with_reducible refine (outside_no a 1 4000 _ H1.out).mono ?_); rintro e w' ⟨rfl, rfl⟩) | (go_at_call 56; (with_reducible refine (outside_no b 1 4000 _ H2.out).mono ?_); rintro e w' ⟨rfl, rfl⟩))
        go_ret
        exact ⟨ret_int HS.out.symm, rfl⟩
    · have H2 := Lib.hid h2
      have HS := Lib.hid (show sizeErr a b = 3 by unfold sizeErr; rw [if_pos (by omega)])
      clear h1 h2
      go_enter Try.func70, Try.ntmps70
      go_wp2_with (first | (go_at_call 56; (with_reducible refine (outside_no a 1 4000 _ H1.out).mono ?_); rintro e w' ⟨rfl, rfl⟩) | (go_at_call 56; (with_reducible refine (outside_yes b 1 4000 _ H2.out).mono ?_); rintro e w' ⟨rfl, rfl⟩))
      go_ret
      exact ⟨ret_int HS.out.symm, rfl⟩
  · have H1 := Lib.hid h1
    have HS := Lib.hid (show sizeErr a b = 3 by unfold sizeErr; rw [if_pos (by omega)])
    clear h1
    go_enter Try.func70, Try.ntmps70
    go_wp2_with (first | (go_at_call 56; (with_reducible refine (outside_yes a 1 4000 _ H1.out).mono ?_); rintro e w' ⟨rfl, rfl⟩))
    go_ret
    exact ⟨ret_int HS.out.symm, rfl⟩

end Go.Proofs.Ytofcojcfcpfdmaa
namespace Go.Proofs.Ytofcojcfcpfdmaa
open Go.RowKit
set_option linter.unusedSimpArgs false
set_option linter.unusedVariables false

/-- The first of two errors. -/
def orI (x y : Int) : Int := if x = 0 then y else x

theorem new_below (w : World) (o : Obj) : Below w.heap.size w (w.alloc o) := (Below.refl _ _).alloc (Nat.le_refl _) _
theorem below_step {w a b : World} (h : Below w.heap.size w a) (k : Below a.heap.size a b) : Below w.heap.size w b := h.trans (k.mono h.size)
theorem below_alloc {w a : World} (h : Below w.heap.size w a) (o : Obj) : Below w.heap.size w (a.alloc o) := h.alloc h.size o

theorem sizeErr_zero {a b : Int} (h : sizeErr a b = 0) : (1 ≤ a ∧ a ≤ 4000 ∧ 1 ≤ b ∧ b ≤ 4000) ∧ 0 ≤ a * b ∧ a * b ≤ 1048576 := by
  unfold sizeErr at h
  split at h
  · simp at h
  · split at h
    · simp at h
    · have := mul_small (by omega : 1 ≤ a) (by omega : 1 ≤ b) (by omega) (by omega)
      omega

/-- The error of a page: of its size, else of the number of its pixels. -/
def pageErr (a b : Int) (n : Nat) : Int := if sizeErr a b = 0 then (if (n : Int) = a * b then 0 else 2) else sizeErr a b

theorem check_any (a b : Int) (n : Nat) (w : World) : Calls Try.prog 79 #[.int .i64 a, .int .i64 b, .int .i64 n] w fun r w' => r = .returned (.int .i64 (pageErr a b n)) ∧ w = w' := by
  by_cases h : sizeErr a b = 0
  · have hz := sizeErr_zero h
    have H := Lib.hid h
    have hs : pageErr a b n = if (n : Int) = a * b then 0 else 2 := by unfold pageErr; rw [if_pos h]
    have HS := Lib.hid hs
    have hw : wrap64 (a * b) = a * b := by unfold wrap64; omega
    by_cases h2 : (n : Int) = a * b
    · have h2' : ((n : Int) != a * b) = false := by simpa using h2
      have H2 := Lib.hid h2
      clear h2 hs
      go_enter Try.func79, Try.ntmps79
      go_wp2_with ((go_at_call 70; refine (checkSize_any _ _ _).mono ?_; rintro e w' ⟨rfl, rfl⟩))
      go_ret
      exact ⟨ret_int (by rw [HS.out, if_pos H2.out]), rfl⟩
    · have h2' : ((n : Int) != a * b) = true := by simpa using h2
      have H2 := Lib.hid h2
      clear h2 hs
      go_enter Try.func79, Try.ntmps79
      go_wp2_with ((go_at_call 70; refine (checkSize_any _ _ _).mono ?_; rintro e w' ⟨rfl, rfl⟩))
      go_ret
      exact ⟨ret_int (by rw [HS.out, if_neg H2.out]), rfl⟩
  · have h' : (sizeErr a b != 0) = true := by simpa using h
    have H := Lib.hid h
    clear h
    go_enter Try.func79, Try.ntmps79
    go_wp2_with ((go_at_call 70; refine (checkSize_any _ _ _).mono ?_; rintro e w' ⟨rfl, rfl⟩))
    go_ret
    exact ⟨ret_int (by unfold pageErr; rw [if_neg H.out]), rfl⟩

theorem checkBits_any (a b : Int) (p : Option Addr) (n c : Nat) (w : World) : Calls Try.prog 25 #[.agg #[.int .i64 a, .int .i64 b, .slice p n c]] w fun r w' => r = .returned (.int .i64 (pageErr a b n)) ∧ w.alloc (.cells #[.int .i64 a, .int .i64 b, .slice p n c] 40) = w' := by
  go_enter Try.func25, Try.ntmps25
  go_wp2_with ((go_at_call 79; refine (check_any _ _ _ _).mono ?_; rintro e w' ⟨rfl, rfl⟩))
  go_ret
  exact ⟨rfl, rfl⟩

end Go.Proofs.Ytofcojcfcpfdmaa
namespace Go.Proofs.Ytofcojcfcpfdmaa
open Go.RowKit
set_option linter.unusedSimpArgs false
set_option linter.unusedVariables false

/-- The first n places of a page that is w wide, row by row. -/
def places {α : Type} (w : Nat) (f : Nat → Nat → α) (n : Nat) : List α := (List.range n).map fun k => f (k % w) (k / w)

theorem places_succ {α : Type} (w : Nat) (f : Nat → Nat → α) (x y : Nat) (hx : x < w) : places w f (y * w + x + 1) = places w f (y * w + x) ++ [f x y] := by
  have h1 : (y * w + x) % w = x := by rw [Nat.add_comm, Nat.mul_comm, Nat.add_mul_mod_self_left, Nat.mod_eq_of_lt hx]
  have h2 : (y * w + x) / w = y := by rw [Nat.add_comm, Nat.mul_comm, Nat.add_mul_div_left _ _ (by omega), Nat.div_eq_of_lt hx, Nat.zero_add]
  simp [places, List.range_succ, h1, h2]

theorem row_fits {w h y x : Nat} (hy : y < h) (hx : x ≤ w) : y * w + x ≤ w * h := by
  have : (y + 1) * w ≤ h * w := Nat.mul_le_mul_right _ hy
  rw [Nat.add_mul, Nat.one_mul] at this
  rw [Nat.mul_comm w h]
  omega

theorem below_owns {w w' : World} {base : Nat} {e : TypeId} {size : Nat} {v : Value} {n : Nat} {xs : List Value} (h : w.ownsRow base e size v n xs) (hb : Below w.heap.size w w') : w'.ownsRow base e size v n xs :=
  h.kept (row := none) ⟨hb.os, hb.tape, hb.output, hb.size, fun k hk _ => hb.block k hk⟩ (by cases v.ownBlock <;> simp)

theorem info_int : (Try.prog.info? 3).map (fun i => (i.zero, i.size, i.bytes)) = some (some (.int .i64 0), 1, 8) := by kernel_rfl

theorem block3 {w : World} {b : Nat} {x y z : Value} {t : TypeId} (h : w.heap[b]? = some (.cells #[x, y, z] t (0, 0))) :
    w.cell? ⟨b, 0, none⟩ = some x ∧ w.cell? ⟨b, 1, none⟩ = some y ∧ w.cell? ⟨b, 2, none⟩ = some z ∧ w.frozen? ⟨b, 0, none⟩ = false ∧ w.frozen? ⟨b, 1, none⟩ = false ∧ w.frozen? ⟨b, 2, none⟩ = false :=
  ⟨by rw [cell_of_row w b 0 _ t (0, 0) h]; rfl, by rw [cell_of_row w b 1 _ t (0, 0) h]; rfl, by rw [cell_of_row w b 2 _ t (0, 0) h]; rfl, frozen_of_row w b 0 _ t h, frozen_of_row w b 1 _ t h, frozen_of_row w b 2 _ t h⟩

theorem owns_base {w : World} {base base' : Nat} {e : TypeId} {size : Nat} {v : Value} {n : Nat} {xs : List Value} (h : w.ownsRow base e size v n xs) (hb : base' ≤ base) : w.ownsRow base' e size v n xs := by
  obtain ⟨h1, h2⟩ := h
  refine ⟨h1, ?_⟩
  rcases h2 with h2 | ⟨g, cap, cur, hv, hg, r⟩
  · exact Or.inl h2
  · exact Or.inr ⟨g, cap, cur, hv, Nat.le_trans hb hg, r⟩

theorem info_bool : (Try.prog.info? 4).map (fun i => (i.zero, i.size, i.bytes)) = some (some (.bool false), 1, 1) := by kernel_rfl

theorem below_drewN {B : Nat} {a w : World} (h : Below B a w) (q : Nat) : Below B a (w.drewN q) := ⟨h.os, h.tape, h.output, h.size, h.block⟩

theorem below_block {w w' : World} {b : Nat} {o : Obj} (hb : Below w.heap.size w w') (h : w.heap[b]? = some o) : w'.heap[b]? = some o :=
  (hb.block b (Array.getElem?_eq_some_iff.1 h).1).trans h
theorem grown_block {w w' : World} {b : Nat} {o : Obj} {row : Option Nat} (hg : w.grownBy w' row) (h : w.heap[b]? = some o) (hne : some b ≠ row) : w'.heap[b]? = some o :=
  (hg.block b (Array.getElem?_eq_some_iff.1 h).1 hne).trans h

theorem cell_far3 {w : World} {b : Nat} {x y z r : Value} {a : Addr} (hne : a.block ≠ b) (h : w.cell? a = some r) : (((w.setCell ⟨b, 0, none⟩ x).setCell ⟨b, 1, none⟩ y).setCell ⟨b, 2, none⟩ z).cell? a = some r := by
  rw [World.cell?_of_block (Below.heap_setCell _ _ _ _ hne), World.cell?_of_block (Below.heap_setCell _ _ _ _ hne), World.cell?_of_block (Below.heap_setCell _ _ _ _ hne)]
  exact h

theorem owns_far3 {w : World} {base base' b : Nat} {e : TypeId} {size : Nat} {v : Value} {n : Nat} {xs : List Value} {x y z : Value} (h : w.ownsRow base e size v n xs) (hb : b < base) (hbb : base' ≤ base) : (((w.setCell ⟨b, 0, none⟩ x).setCell ⟨b, 1, none⟩ y).setCell ⟨b, 2, none⟩ z).ownsRow base' e size v n xs :=
  owns_base (ownsRow_setCell_below (ownsRow_setCell_below (ownsRow_setCell_below h hb _) hb _) hb _) hbb
theorem below_far3 {w a : World} {B b : Nat} {x y z : Value} (h : Below B w a) (hb : B ≤ b) : Below B w (((a.setCell ⟨b, 0, none⟩ x).setCell ⟨b, 1, none⟩ y).setCell ⟨b, 2, none⟩ z) := ((h.setCell hb _).setCell hb _).setCell hb _

end Go.Proofs.Ytofcojcfcpfdmaa
namespace Go.Proofs.Ytofcojcfcpfdmaa
open Go.RowKit
set_option linter.unusedSimpArgs false
set_option linter.unusedVariables false

set_option maxRecDepth 100000 in
theorem blank_ok (a b : Int) (w : World) (h : sizeErr a b = 0) : Calls Try.prog 20 #[.int .i64 a, .int .i64 b] w fun r w' =>
    ∃ (v : Value) (n : Nat), r = .returned (.tuple #[.agg #[.int .i64 a, .int .i64 b, v], .int .i64 0]) ∧ (n : Int) = a * b ∧ w'.ownsRow w.heap.size 4 1 v n (List.replicate n (.bool false)) ∧ Below w.heap.size w w' := by
  obtain ⟨i0, hi, hz0, hz1, hz2⟩ := info_parts info_bool
  obtain ⟨hab, hm0, hm1⟩ := sizeErr_zero h
  obtain ⟨n, hn⟩ := Int.eq_ofNat_of_zero_le hm0
  have hn' : n ≤ 1048576 := by omega
  have HN := Lib.hid hn
  clear hn
  go_enter Try.func20, Try.ntmps20
  go_wp2_with (first | (go_at_call 70; refine (checkSize_any _ _ _).mono ?_; rintro e w' ⟨rfl, rfl⟩) | (at_make; refine wpList_make_full _ rfl _ _ 38 rfl (w.heap.size + 1) 4 i0 (.bool false) 1 Try.underlying38 hi hz0 hz1 _ _ _ _ n rfl rfl HN.out HN.out (by rw [hz2]; omega) (by unfold maxLen; omega) (by simp) ?_))
  intro w1 hown1 hgrow1
  have hb0 := hgrow1.block w.heap.size (by simp) (by simp)
  rw [heap_alloc_new] at hb0
  obtain ⟨q0, q1, q2, r0, r1, r2⟩ := block3 hb0
  clear hb0
  have G := Lib.hid hgrow1
  have O := Lib.hid hown1
  clear hgrow1 hown1
  go_wp2
  refine bodyPost_ret (v := .tuple #[.agg #[.int .i64 a, .int .i64 b, .slice (some ⟨w.heap.size + 1, 0, none⟩) n n], .int .i64 0]) (by simp [results, Try.results20, go_sem, q0, q1, q2]) rfl ⟨_, n, rfl, HN.out.symm, ?_, ?_⟩
  · have O' := O.out
    rw [toList_madeCells_one] at O'
    exact owns_base (ownsRow_setCell_below (ownsRow_setCell_below (ownsRow_setCell_below O' (by simp) _) (by simp) _) (by simp) _) (by omega)
  · exact ((((new_below _ _).grown G.out (by simp) (by simp)).setCell (by simp) _).setCell (by simp) _).setCell (by simp) _

end Go.Proofs.Ytofcojcfcpfdmaa
namespace Go.Proofs.Ytofcojcfcpfdmaa
open Go.RowKit
set_option linter.unusedSimpArgs false
set_option linter.unusedVariables false

theorem rounded_any (a b : Int) (w : World) (h0 : 0 ≤ a) (h1 : a ≤ 1000000000000) (h2 : 1 ≤ b) (h3 : b ≤ 1000000000000) :
    Calls Try.prog 59 #[.int .i64 a, .int .i64 b] w fun r w' => r = .returned (.int .i64 ((2 * a + b) / (2 * b))) ∧ w = w' := by
  go_enter Try.func59, Try.ntmps59
  go_wp2
  go_ret
  exact ⟨rfl, rfl⟩

end Go.Proofs.Ytofcojcfcpfdmaa
namespace Go.Proofs.Ytofcojcfcpfdmaa
open Go.RowKit
set_option linter.unusedSimpArgs false
set_option linter.unusedVariables false

/-- Ink at a place, also beyond a page. -/
def atB (W H : Nat) (z : Nat → Bool) (x y : Int) : Bool := if (0 ≤ x ∧ x ≤ (W : Int) - 1) ∧ (0 ≤ y ∧ y ≤ (H : Int) - 1) then z (y.toNat * W + x.toNat) else false

end Go.Proofs.Ytofcojcfcpfdmaa
namespace Go.Proofs.Ytofcojcfcpfdmaa
open Go.RowKit
set_option linter.unusedSimpArgs false
set_option linter.unusedVariables false

/-- A number of 1024ths, its magnitude rounded. -/
def shiftV (p : Int) : Int := if p < 0 then -((2 * (-p) + 1024) / 2048) else (2 * p + 1024) / 2048

theorem shiftV_bounds {p : Int} (h : -1100000 ≤ p ∧ p ≤ 1100000) : -1100 ≤ shiftV p ∧ shiftV p ≤ 1100 := by
  unfold shiftV; split <;> omega
theorem shiftV_neg (p : Int) : shiftV (-p) = - shiftV p := by
  unfold shiftV
  by_cases h : p = 0
  · subst h; rfl
  · split <;> split <;> omega

theorem shift_pos (p : Int) (w : World) (h0 : 0 ≤ p) (h1 : p ≤ 1100000) : Calls Try.prog 113 #[.int .i64 p] w fun r w' => r = .returned (.int .i64 ((2 * p + 1024) / 2048)) ∧ w = w' := by
  have h2 : ¬ p < 0 := by omega
  go_enter Try.func113, Try.ntmps113
  go_wp2_with (go_at_call 59; refine (rounded_any _ _ _ (by omega) (by omega) (by omega) (by omega)).mono ?_; rintro e wq ⟨rfl, rfl⟩)
  go_ret
  exact ⟨rfl, rfl⟩
theorem shift_any (p : Int) (w : World) (h : -1100000 ≤ p ∧ p ≤ 1100000) : Calls Try.prog 113 #[.int .i64 p] w fun r w' => r = .returned (.int .i64 (shiftV p)) ∧ w = w' := by
  by_cases h0 : p < 0
  · have e1 : shiftV p = -((2 * (-p) + 1024) / 2048) := by unfold shiftV; rw [if_pos h0]
    rw [e1]
    obtain ⟨q, hq⟩ : ∃ q, q = -p := ⟨_, rfl⟩
    obtain ⟨v, hv⟩ : ∃ v, v = (2 * q + 1024) / 2048 := ⟨_, rfl⟩
    rw [← hq, ← hv]
    have hq1 : 0 ≤ q := by omega
    have hq2 : q ≤ 1100000 := by omega
    have hv1 : 0 ≤ v := by omega
    have hv2 : v ≤ 1100 := by omega
    have hp : -p = q := hq.symm
    have HV := Lib.hid hv
    clear e1 hv
    obtain ⟨h1, h2⟩ := h
    clear hq
    go_enter Try.func113, Try.ntmps113
    go_wp2_with fail
    refine (shift_pos q _ hq1 hq2).mono ?_
    rintro e wq ⟨rfl, rfl⟩
    rw [← HV.out]
    go_wp2_with fail
    go_ret
    exact ⟨rfl, rfl⟩
  · have e1 : shiftV p = (2 * p + 1024) / 2048 := by unfold shiftV; rw [if_neg h0]
    rw [e1]
    exact shift_pos p w (by omega) h.2

end Go.Proofs.Ytofcojcfcpfdmaa
namespace Go.Proofs.Ytofcojcfcpfdmaa
open Go.RowKit
set_option linter.unusedSimpArgs false
set_option linter.unusedVariables false

set_option maxHeartbeats 800000 in
set_option maxRecDepth 100000 in
theorem fillBool_any (w h g : Nat) (capt : Array Value) (f : Nat → Nat → Bool) (W0 : World) (hw : 1 ≤ w) (hw' : w ≤ 10000000) (hh : h ≤ 10000000) (hN : w * h ≤ 10000000)
    (eg : ∀ (args : Array Value) (W : World), (callFunc g args).run Try.prog W = .ok (.enter g args) W)
    (hc : ∀ (x y : Nat) (W : World), x < w → y < h → Below W0.heap.size W0 W → Calls Try.prog g (#[.int .i64 x, .int .i64 y] ++ capt) W fun e W' => e = .returned (.bool (f x y)) ∧ Below W.heap.size W W') :
    Calls Try.prog 114 #[.int .i64 w, .int .i64 h, .func (.func g) #[] capt] W0 fun e W' =>
      ∃ v, e = .returned v ∧ W'.ownsRow W0.heap.size 4 1 v (w * h) ((places w f (w * h)).map (Value.bool)) ∧ Below W0.heap.size W0 W' := by
  obtain ⟨i0, hi, hz0, hz1, hz2⟩ := info_parts info_bool
  have m0 : (0 : Int) ≤ (w : Int) * (h : Int) := Int.mul_nonneg (by omega) (by omega)
  have m1 : (w : Int) * (h : Int) ≤ 10000000 := by rw [← Int.natCast_mul]; omega
  have HC := Lib.hid hc
  clear hc
  go_enter Try.func114, Try.ntmps114
  go_wp2_with (at_make; refine wpList_make_own _ rfl _ _ 38 rfl W0.heap.size 4 i0 (.bool false) 1 Try.underlying38 hi hz0 hz1 _ _ _ (w * h) rfl rfl (by rw [Int.natCast_mul]) (by rw [hz2]; omega) (by unfold maxLen; omega) (Nat.le_refl _) ?_)
  intro w1 hown1 hgrow1
  have hb1 : Below W0.heap.size W0 w1 := (Below.refl _ _).grown hgrow1 (Nat.le_refl _) (by simp)
  clear hgrow1
  go_wp2
  go_loopw [7, 15] (fun v i wr => ∃ y : Nat, y ≤ h ∧ i = .int .i64 y ∧ wr.ownsRow W0.heap.size 4 1 v (y * w) ((places w f (y * w)).map (Value.bool)) ∧ Below W0.heap.size W0 wr) (fun _ i _ => h - (intOf i).toNat)
  case atStart => exact ⟨0, Nat.zero_le _, rfl, by simpa [places] using hown1, hb1⟩
  case round =>
    obtain ⟨y, hy, rfl, hown, hb⟩ := hrel
    clear hown1 hb1
    by_cases hlt : y < h
    · obtain ⟨wo, rfl⟩ : ∃ wo : World, wo = wr := ⟨_, rfl⟩
      go_wp2
      go_loopw [7, 19] (fun v i wr => ∃ x : Nat, x ≤ w ∧ i = .int .i64 x ∧ wr.ownsRow W0.heap.size 4 1 v (y * w + x) ((places w f (y * w + x)).map (Value.bool)) ∧ Below W0.heap.size W0 wr) (fun _ i _ => w - (intOf i).toNat)
      case atStart => exact ⟨0, Nat.zero_le _, rfl, by simpa using hown, hb⟩
      case round =>
        obtain ⟨x, hx, rfl, hownr, hbr⟩ := hrel
        clear hown hb
        by_cases hltx : x < w
        · have HC' := HC.out x y
          have hfit := row_fits hlt (show x + 1 ≤ w by omega)
          go_wp2_with (first | (go_at_fn g; refine (HC' _ hltx hlt hbr).mono ?_; rintro e w' ⟨rfl, hb'⟩; have hown' := below_owns hownr hb') | (at_builtin; refine wpList_append_own _ rfl _ _ 38 rfl W0.heap.size 4 i0 (.bool false) 1 1 Try.underlying38 hi hz0 hz1 hz2 rfl (by decide) _ _ _ rfl (hown'.alloc _) ⟨w'.heap.size, 0, none⟩ 1 1 [.bool (f x y)] rfl rfl ?c1 ?c2 ?c3 ?c4 ?c5 ?_))
          case c1 => exact cell_one_new _ _ _
          case c2 => intro u hu; simp at hu; subst hu; rfl
          case c3 => unfold maxLen; omega
          case c4 => omega
          case c5 => have h1 := hbr.size; have h2 := hb'.size; simp; omega
          · intro v' w2 hown2 hgr2 _
            have hb2 : Below W0.heap.size W0 w2 := (((hbr.trans (hb'.mono hbr.size))).alloc (Nat.le_trans hbr.size hb'.size) _).grown hgr2 (by have h1 := hbr.size; have h2 := hb'.size; simp; omega) (fun k hk => (hown'.lt k hk).1)
            have hp := Lib.hid (places_succ w f x y hltx)
            clear hgr2 hown' hownr hbr hb' HC'
            go_wp2
            go_roundw
            case rel => exact ⟨x + 1, by omega, by go_num, by rw [← Nat.add_assoc, hp.out, List.map_append]; exact hown2, hb2⟩
            case measure => simp [intOf]; omega
        · have hxe := Lib.hid (show x = w by omega)
          go_wp2
          go_roundw
          case rel => exact ⟨y + 1, by omega, by go_num, by rw [show (y + 1) * w = y * w + x by rw [hxe.out, Nat.add_mul, Nat.one_mul]]; exact hownr, hbr⟩
          case measure => simp [intOf]; omega
    · have hye := Lib.hid (show y = h by omega)
      go_wp2
      go_ret
      exact ⟨_, rfl, by rw [Nat.mul_comm w h, ← hye.out]; exact hown, hb⟩

end Go.Proofs.Ytofcojcfcpfdmaa
namespace Go.Proofs.Ytofcojcfcpfdmaa
open Go.RowKit
set_option linter.unusedSimpArgs false
set_option linter.unusedVariables false

/-- A box is in a page of W by H. -/
def InP (X Y bw bh : Int) (W H : Int) : Prop := (0 ≤ X ∧ X ≤ W - 1) ∧ (0 ≤ Y ∧ Y ≤ H - 1) ∧ (1 ≤ bw ∧ bw ≤ W - X) ∧ (1 ≤ bh ∧ bh ≤ H - Y)

end Go.Proofs.Ytofcojcfcpfdmaa
namespace Go.Proofs.Ytofcojcfcpfdmaa
open Go.RowKit
set_option linter.unusedSimpArgs false
set_option linter.unusedVariables false
attribute [local go_sem ↓] Go.wp_at_zero Go.wp_at_succ

/-- What holds while Made runs: n values are there; they lie in a row of their own, which the page's variable leads to. -/
def MadeRel (w h : Nat) (f : Nat → Nat → Bool) (W0 : World) (n : Nat) (wr : World) (v : Value) : Prop :=
  wr.ownsRow (W0.heap.size + 2) 4 1 v n ((places w f n).map Value.bool) ∧ wr.heap[W0.heap.size]? = some (.cells #[.int .i64 0, .int .i64 0, .slice none 0 0] 40 (0, 0)) ∧
  wr.heap[W0.heap.size + 1]? = some (.cells #[.int .i64 w, .int .i64 h, v] 40 (0, 0)) ∧ Below W0.heap.size W0 wr

theorem MadeRel.later {w h : Nat} {f : Nat → Nat → Bool} {W0 wr w' : World} {n : Nat} {v : Value} (hr : MadeRel w h f W0 n wr v) (hb : Below wr.heap.size wr w') : MadeRel w h f W0 n w' v :=
  ⟨below_owns hr.1 hb, below_block hb hr.2.1, below_block hb hr.2.2.1, below_step hr.2.2.2 hb⟩

theorem MadeRel.stored {w h : Nat} {f : Nat → Nat → Bool} {W0 wr w1 : World} {v v' : Value} {x y : Nat} (hr : MadeRel w h f W0 (y * w + x) wr v) (hx : x < w) (q : Bool) (hq : q = f x y)
    (hown : w1.ownsRow (W0.heap.size + 2) 4 1 v' (y * w + x + 1) ((places w f (y * w + x)).map Value.bool ++ [Value.bool q])) (hg : wr.grownBy w1 v.ownBlock) :
    MadeRel w h f W0 (y * w + x + 1) (w1.setCell ⟨W0.heap.size + 1, 2, none⟩ v') v' := by
  obtain ⟨h1, h2, h3, h4⟩ := hr
  have hrow : ∀ k, v.ownBlock = some k → W0.heap.size + 2 ≤ k := fun k hk => (h1.lt k hk).1
  have n0 : some W0.heap.size ≠ v.ownBlock := fun e => by have := hrow _ e.symm; omega
  have n1 : some (W0.heap.size + 1) ≠ v.ownBlock := fun e => by have := hrow _ e.symm; omega
  refine ⟨?_, ?_, ?_, ?_⟩
  · rw [places_succ w f x y hx, List.map_append, ← hq]
    exact ownsRow_setCell_below hown (by simp) _
  · rw [Below.heap_setCell _ _ _ _ (by simp)]
    exact grown_block hg h2 n0
  · exact heap_setCell_same w1 (W0.heap.size + 1) 2 #[.int .i64 w, .int .i64 h, v] 40 v' (grown_block hg h3 n1)
  · exact (h4.grown hg h4.size (fun k hk => by have := hrow k hk; omega)).setCell (by simp) _

end Go.Proofs.Ytofcojcfcpfdmaa
namespace Go.Proofs.Ytofcojcfcpfdmaa
open Go.RowKit
set_option linter.unusedSimpArgs false
set_option linter.unusedVariables false
attribute [local go_sem ↓] Go.wp_at_zero Go.wp_at_succ

theorem owns_shape {w : World} {base : Nat} {e : TypeId} {size : Nat} {v : Value} {n : Nat} {xs : List Value} (h : w.ownsRow base e size v n xs) : ∃ a l c, v = .slice a l c := by
  rcases h.2 with ⟨h0, _⟩ | ⟨g, cap, cur, h0, _⟩
  · exact ⟨_, _, _, h0⟩
  · exact ⟨_, _, _, h0⟩

end Go.Proofs.Ytofcojcfcpfdmaa
namespace Go.Proofs.Ytofcojcfcpfdmaa
open Go.RowKit
set_option linter.unusedSimpArgs false
set_option linter.unusedVariables false

set_option maxRecDepth 100000 in
theorem equalBool_true (g1 o1 g2 o2 n c1 c2 : Nat) (z : Nat → Bool) (w : World) (hn : n ≤ 100000000)
    (h1 : ∀ j, j < n → w.cell? ⟨g1, o1 + j, none⟩ = some (.bool (z j))) (h2 : ∀ j, j < n → w.cell? ⟨g2, o2 + j, none⟩ = some (.bool (z j))) :
    Calls Try.prog 78 #[.slice (some ⟨g1, o1, none⟩) n c1, .slice (some ⟨g2, o2, none⟩) n c2] w fun e w' => e = .returned (.bool true) ∧ ∃ q, w' = w.drewN q := by
  have H1 := Lib.hid h1
  have H2 := Lib.hid h2
  clear h1 h2
  go_enter Try.func78, Try.ntmps78
  go_wp2
  go_loopw [13] (fun i wr => ∃ k q : Nat, k ≤ n ∧ i = .int .i64 k ∧ wr = w.drewN q) (fun i _ => n - (intOf i).toNat)
  case atStart => exact ⟨0, 0, Nat.zero_le _, rfl, rfl⟩
  case round =>
    obtain ⟨k, q, hk, rfl, rfl⟩ := hrel
    by_cases hlt : k < n
    · have e1 := H1.out k hlt
      have e2 := H2.out k hlt
      generalize z k = x at e1 e2
      have i1 : (k : Int) < (n : Int) := by omega
      have i0 : (0 : Int) ≤ (k : Int) := by omega
      go_wp2
      go_quiet (fail)
      go_wp2
      go_roundw
      case rel => exact ⟨k + 1, _, by omega, by go_num, rfl⟩
      case measure => simp [intOf]; omega
    · go_wp2
      go_ret
      exact ⟨rfl, q, rfl⟩

end Go.Proofs.Ytofcojcfcpfdmaa
namespace Go.Proofs.Ytofcojcfcpfdmaa
open Go.RowKit
set_option linter.unusedSimpArgs false
set_option linter.unusedVariables false
attribute [local go_sem ↓] Go.wp_at_zero Go.wp_at_succ

/-- What holds while Made runs: n values are there; they lie in a row of their own, which the page's variable leads to. -/
def MadeRelY (w h : Nat) (f : Nat → Nat → Int) (W0 : World) (n : Nat) (wr : World) (v : Value) : Prop :=
  wr.ownsRow (W0.heap.size + 2) 5 1 v n ((places w f n).map (Value.int .u8)) ∧ wr.heap[W0.heap.size]? = some (.cells #[.int .i64 0, .int .i64 0, .slice none 0 0] 24 (0, 0)) ∧
  wr.heap[W0.heap.size + 1]? = some (.cells #[.int .i64 w, .int .i64 h, v] 24 (0, 0)) ∧ Below W0.heap.size W0 wr

theorem MadeRelY.later {w h : Nat} {f : Nat → Nat → Int} {W0 wr w' : World} {n : Nat} {v : Value} (hr : MadeRelY w h f W0 n wr v) (hb : Below wr.heap.size wr w') : MadeRelY w h f W0 n w' v :=
  ⟨below_owns hr.1 hb, below_block hb hr.2.1, below_block hb hr.2.2.1, below_step hr.2.2.2 hb⟩

theorem MadeRelY.stored {w h : Nat} {f : Nat → Nat → Int} {W0 wr w1 : World} {v v' : Value} {x y : Nat} (hr : MadeRelY w h f W0 (y * w + x) wr v) (hx : x < w) (q : Int) (hq : q = f x y)
    (hown : w1.ownsRow (W0.heap.size + 2) 5 1 v' (y * w + x + 1) ((places w f (y * w + x)).map (Value.int .u8) ++ [Value.int .u8 q])) (hg : wr.grownBy w1 v.ownBlock) :
    MadeRelY w h f W0 (y * w + x + 1) (w1.setCell ⟨W0.heap.size + 1, 2, none⟩ v') v' := by
  obtain ⟨h1, h2, h3, h4⟩ := hr
  have hrow : ∀ k, v.ownBlock = some k → W0.heap.size + 2 ≤ k := fun k hk => (h1.lt k hk).1
  have n0 : some W0.heap.size ≠ v.ownBlock := fun e => by have := hrow _ e.symm; omega
  have n1 : some (W0.heap.size + 1) ≠ v.ownBlock := fun e => by have := hrow _ e.symm; omega
  refine ⟨?_, ?_, ?_, ?_⟩
  · rw [places_succ w f x y hx, List.map_append, ← hq]
    exact ownsRow_setCell_below hown (by simp) _
  · rw [Below.heap_setCell _ _ _ _ (by simp)]
    exact grown_block hg h2 n0
  · exact heap_setCell_same w1 (W0.heap.size + 1) 2 #[.int .i64 w, .int .i64 h, v] 24 v' (grown_block hg h3 n1)
  · exact (h4.grown hg h4.size (fun k hk => by have := hrow k hk; omega)).setCell (by simp) _

end Go.Proofs.Ytofcojcfcpfdmaa
namespace Go.Proofs.Ytofcojcfcpfdmaa
open Go.ChangeShapes Go.WideShapes Go.ChangeAt Go.RowKit Go.Joins
open Go.ChangeMaps (open_string shut_string)
set_option linter.unusedVariables false

theorem own : ownKnob Try.prog.godebug = none := by kernel_rfl
theorem laidOut : laidOutB Try.prog = true := by kernel_rfl
theorem cellsBits : Try.prog.cellsOf 40 = 3 := by kernel_rfl
theorem cellsBool : Try.prog.cellsOf 4 = 1 := by kernel_rfl

/-- A slice of bools that came in: nil; or its cells hold what B tells. -/
def IsBools (w : World) (a : Option Addr) (len cap : Nat) (B : Nat → Bool) : Prop :=
  (a = none ∧ len = 0 ∧ cap = 0) ∨ ∃ x, a = some x ∧ ∀ i, i < len → w.cell? (x.add i) = some (.bool (B i))

theorem isBools_cells {w : World} {a : Option Addr} {len cap : Nat} {B : Nat → Bool} (h : IsBools w a len cap B) (hl : 1 ≤ len) :
    ∃ pb po, a = some ⟨pb, po, none⟩ ∧ ∀ j, j < len → w.cell? ⟨pb, po + j, none⟩ = some (.bool (B j)) := by
  rcases h with ⟨_, h0, _⟩ | ⟨⟨pb, po, spot⟩, rfl, hcell⟩
  · omega
  · have hspot : spot = none := by simpa [Addr.add] using World.cell?_spot (hcell 0 (by omega))
    subst hspot
    exact ⟨pb, po, rfl, fun j hj => by have := hcell j hj; rwa [Addr.add_lit] at this⟩

theorem isBools_later {w w' : World} {a : Option Addr} {len cap : Nat} {B : Nat → Bool} (h : IsBools w a len cap B) (hb : Below w.heap.size w w') : IsBools w' a len cap B := by
  rcases h with h | ⟨x, h1, h2⟩
  · exact .inl h
  · exact .inr ⟨x, h1, fun i hi => (hb.cell (World.block_lt_of_cell? _ _ (h2 i hi))).trans (h2 i hi)⟩

end Go.Proofs.Ytofcojcfcpfdmaa
namespace Go.Proofs.Ytofcojcfcpfdmaa
open Go.RowKit
set_option linter.unusedSimpArgs false
set_option linter.unusedVariables false

instance (X Y bw bh W H : Int) : Decidable (InP X Y bw bh W H) := by unfold InP; infer_instance

/-- The error of a cut: of the page, else of the box. -/
def cutErr (a b : Int) (n : Nat) (X Y bw bh : Int) : Int := if pageErr a b n = 0 then (if InP X Y bw bh a b then 0 else 13) else pageErr a b n

theorem page_parts {a b : Int} {n : Nat} (h : pageErr a b n = 0) : sizeErr a b = 0 ∧ (n : Int) = a * b := by
  unfold pageErr at h
  by_cases h0 : sizeErr a b = 0
  · rw [if_pos h0] at h
    by_cases h1 : (n : Int) = a * b
    · exact ⟨h0, h1⟩
    · rw [if_neg h1] at h; simp at h
  · rw [if_neg h0] at h; exact absurd h h0

/-- The numbers of a right page. -/
theorem page_nat {a b : Int} {n : Nat} (h : pageErr a b n = 0) : ∃ W H : Nat, a = W ∧ b = H ∧ n = W * H ∧ 1 ≤ W ∧ W ≤ 4000 ∧ 1 ≤ H ∧ H ≤ 4000 ∧ n ≤ 1048576 ∧ sizeErr (W : Int) (H : Int) = 0 := by
  obtain ⟨he, hn⟩ := page_parts h
  obtain ⟨⟨a1, a2, a3, a4⟩, z0, z1⟩ := sizeErr_zero he
  obtain ⟨W, rfl⟩ := Int.eq_ofNat_of_zero_le (by omega : 0 ≤ a)
  obtain ⟨H, rfl⟩ := Int.eq_ofNat_of_zero_le (by omega : 0 ≤ b)
  refine ⟨W, H, rfl, rfl, ?_, by omega, by omega, by omega, by omega, by omega, he⟩
  have : (n : Int) = ((W * H : Nat) : Int) := by rw [hn, Int.natCast_mul]
  omega

theorem owns_pageB {w : World} {base : Nat} {v : Value} {N bw : Nat} {f : Nat → Nat → Bool} (h : w.ownsRow base 4 1 v N ((places bw f N).map Value.bool)) (hN : 1 ≤ N) :
    ∃ g c, v = .slice (some ⟨g, 0, none⟩) N c ∧ base ≤ g ∧ ∀ j, j < N → w.cell? ⟨g, 0 + j, none⟩ = some (.bool (f (j % bw) (j / bw))) := by
  rcases h.2 with ⟨_, h0⟩ | ⟨g, c, cur, rfl, hg, _⟩
  · omega
  · exact ⟨g, c, rfl, hg, fun j hj => by rw [Nat.zero_add, h.cellAt j (by omega)]; simp [places, List.getElem?_range hj]⟩

/-- What a cut is, in memory: nothing with an error; else the places of the box. -/
def CutIs (a b : Int) (n : Nat) (X Y bw bh : Int) (z : Nat → Bool) (B : Nat) (w : World) (i j : Int) (sl : Option Addr) (n' c' : Nat) : Prop :=
  (cutErr a b n X Y bw bh ≠ 0 ∧ i = 0 ∧ j = 0 ∧ sl = none ∧ n' = 0 ∧ c' = 0) ∨
  (cutErr a b n X Y bw bh = 0 ∧ i = bw ∧ j = bh ∧ n' = bw.toNat * bh.toNat ∧ ∃ g, B ≤ g ∧ sl = some ⟨g, 0, none⟩ ∧ ∀ k, k < n' → w.cell? ⟨g, 0 + k, none⟩ = some (.bool (z ((Y.toNat + k / bw.toNat) * a.toNat + X.toNat + k % bw.toNat))))

theorem CutIs.later {a b : Int} {n : Nat} {X Y bw bh : Int} {z : Nat → Bool} {B : Nat} {w w' : World} {i j : Int} {sl : Option Addr} {n' c' : Nat} (h : CutIs a b n X Y bw bh z B w i j sl n' c') (hb : Below w.heap.size w w') : CutIs a b n X Y bw bh z B w' i j sl n' c' := by
  rcases h with h | ⟨h1, h2, h3, h4, g, h5, h6, h7⟩
  · exact .inl h
  · exact .inr ⟨h1, h2, h3, h4, g, h5, h6, fun k hk => cell_later hb (h7 k hk)⟩
end Go.Proofs.Ytofcojcfcpfdmaa
namespace Go.Proofs.Ytofcojcfcpfdmaa
open Go.RowKit
set_option linter.unusedSimpArgs false
set_option linter.unusedVariables false

/-- The sum of the first n of f. -/
def sumN (f : Nat → Nat) : Nat → Nat
  | 0 => 0
  | n + 1 => sumN f n + f n

theorem sumN_congr {f g : Nat → Nat} : ∀ {n : Nat}, (∀ j, j < n → f j = g j) → sumN f n = sumN g n
  | 0, _ => rfl
  | n + 1, h => by rw [sumN, sumN, sumN_congr fun j hj => h j (by omega), h n (by omega)]

theorem sumN_ge {f : Nat → Nat} : ∀ {n j : Nat}, j < n → f j ≤ sumN f n
  | 0, _, h => by omega
  | n + 1, j, h => by
    rw [sumN]
    by_cases e : j = n
    · subst e; omega
    · have := sumN_ge (f := f) (n := n) (j := j) (by omega)
      omega

theorem toNat_le (b : Bool) : b.toNat ≤ 1 := by cases b <;> simp

end Go.Proofs.Ytofcojcfcpfdmaa

namespace Go.Proofs.Ytofcojcfcpfdmaa
open Go.RowKit
set_option linter.unusedSimpArgs false
set_option linter.unusedVariables false

end Go.Proofs.Ytofcojcfcpfdmaa
namespace Go.Proofs.Ytofcojcfcpfdmaa
set_option linter.unusedSimpArgs false
set_option linter.unusedVariables false

/-- The sum of n values from k on. -/
def rowSum (P : Nat → Int) (k : Nat) : Nat → Int
  | 0 => 0
  | n + 1 => rowSum P k n + P (k + n)

/-- The sum of a rectangle of a page that is W wide: from (x, y) on, nx wide and ny high. -/
def rectSum (P : Nat → Int) (W y x nx : Nat) : Nat → Int
  | 0 => 0
  | n + 1 => rectSum P W y x nx n + rowSum P ((y + n) * W + x) nx

end Go.Proofs.Ytofcojcfcpfdmaa
namespace Go.Proofs.Ytofcojcfcpfdmaa
open Go.RowKit
set_option linter.unusedSimpArgs false
set_option linter.unusedVariables false

/-- A list of numbers, as values. -/
def numsOf (f : Nat → Nat) (n : Nat) : List Value := (List.range n).map fun k => Value.int .i64 ((f k : Nat) : Int)
theorem numsOf_get (f : Nat → Nat) (n k : Nat) (h : k < n) : (numsOf f n)[k]? = some (.int .i64 ((f k : Nat) : Int)) := by simp [numsOf, List.getElem?_range h]

end Go.Proofs.Ytofcojcfcpfdmaa

namespace Go.Proofs.Ytofcojcfcpfdmaa
open Go.RowKit
set_option linter.unusedSimpArgs false
set_option linter.unusedVariables false

set_option maxHeartbeats 1000000 in
set_option maxRecDepth 100000 in
theorem eachInk_any (W H g o c clo : Nat) (capt : Array Value) (z : Nat → Bool) (I : Nat → Nat → World → Prop) (K : Nat → Prop) (W0 : World) (hW : 1 ≤ W ∧ W ≤ 4000) (hH : 1 ≤ H ∧ H ≤ 4000)
    (eg : ∀ (args : Array Value) (W : World), (callFunc clo args).run Try.prog W = .ok (.enter clo args) W)
    (hp : ∀ j, j < W * H → W0.cell? ⟨g, o + j, none⟩ = some (.bool (z j))) (hK : K g) (hK0 : K W0.heap.size)
    (hI0 : I 0 0 (W0.alloc (.cells #[.int .i64 W, .int .i64 H, .slice (some ⟨g, o, none⟩) (W * H) c] 40)))
    (hrow : ∀ y wx, y < H → I y W wx → I (y + 1) 0 wx)
    (hno : ∀ y x wx, x < W → y < H → z (y * W + x) = false → I y x wx → I y (x + 1) wx)
    (hyes : ∀ y x wx, x < W → y < H → z (y * W + x) = true → I y x wx → Calls Try.prog clo (#[.int .i64 x, .int .i64 y] ++ capt) wx fun e w' => e = .returned (.tuple #[]) ∧ I y (x + 1) w' ∧ ∀ b, K b → w'.heap[b]? = wx.heap[b]?) :
    Calls Try.prog 125 #[.agg #[.int .i64 W, .int .i64 H, .slice (some ⟨g, o, none⟩) (W * H) c], .func (.func clo) #[] capt] W0 fun e w' => e = .returned (.tuple #[]) ∧ I H 0 w' := by
  obtain ⟨w1, hw1⟩ : ∃ w1, w1 = W0.alloc (.cells #[.int .i64 W, .int .i64 H, .slice (some ⟨g, o, none⟩) (W * H) c] 40) := ⟨_, rfl⟩
  have B1 : Below W0.heap.size W0 w1 := by rw [hw1]; exact new_below _ _
  have q0 : w1.cell? ⟨W0.heap.size, 0, none⟩ = some (.int .i64 W) := by rw [hw1]; go_simp
  have q1 : w1.cell? ⟨W0.heap.size, 1, none⟩ = some (.int .i64 H) := by rw [hw1]; go_simp
  have q2 : w1.cell? ⟨W0.heap.size, 2, none⟩ = some (.slice (some ⟨g, o, none⟩) (W * H) c) := by rw [hw1]; go_simp
  have HC := Lib.hid (fun j hj => cell_later B1 (hp j hj))
  have hN : W * H ≤ 16000000 := Nat.mul_le_mul hW.2 hH.2
  rw [← hw1] at hI0
  have HR := Lib.hid hrow
  have HNo := Lib.hid hno
  have HY := Lib.hid hyes
  have HK := Lib.hid hK
  have HK0 := Lib.hid hK0
  clear hp B1 hrow hno hyes hK hK0
  go_enter Try.func125, Try.ntmps125
  go_upto_region 1 with fail
  rw [← hw1]
  clear hw1
  go_wp2_with fail
  go_loopw [8] (fun i wr => ∃ y : Nat, y ≤ H ∧ i = .int .i64 y ∧ I y 0 wr ∧ ∀ b, K b → wr.heap[b]? = w1.heap[b]?) (fun i _ => H - (intOf i).toNat)
  case atStart => exact ⟨0, Nat.zero_le _, rfl, hI0, fun _ _ => rfl⟩
  case round =>
    obtain ⟨y, hy, rfl, hI, hk⟩ := hrel
    have d0 := (World.cell?_of_block (a := ⟨W0.heap.size, 0, none⟩) (hk _ HK0.out)).trans q0
    have d1 := (World.cell?_of_block (a := ⟨W0.heap.size, 1, none⟩) (hk _ HK0.out)).trans q1
    have HKk := Lib.hid hk
    clear hk
    by_cases hlt : y < H
    · obtain ⟨wo, rfl⟩ : ∃ wo : World, wo = wr := ⟨_, rfl⟩
      go_wp2_with fail
      go_loopw [13] (fun i wr => ∃ x : Nat, x ≤ W ∧ i = .int .i64 x ∧ I y x wr ∧ ∀ b, K b → wr.heap[b]? = w1.heap[b]?) (fun i _ => W - (intOf i).toNat)
      case atStart => exact ⟨0, Nat.zero_le _, rfl, hI, HKk.out⟩
      case round =>
        obtain ⟨x, hx, rfl, hIx, hk⟩ := hrel
        clear d0 d1
        have d0 := (World.cell?_of_block (a := ⟨W0.heap.size, 0, none⟩) (hk _ HK0.out)).trans q0
        have d1 := (World.cell?_of_block (a := ⟨W0.heap.size, 1, none⟩) (hk _ HK0.out)).trans q1
        have d2 := (World.cell?_of_block (a := ⟨W0.heap.size, 2, none⟩) (hk _ HK0.out)).trans q2
        have HKx := Lib.hid hk
        clear hk
        by_cases hltx : x < W
        · have hfit := row_fits hlt (show x + 1 ≤ W by omega)
          have hpx := (World.cell?_of_block (a := ⟨g, o + (y * W + x), none⟩) (HKx.out _ HK.out)).trans (HC.out _ (by omega))
          have v0 : (0 : Int) ≤ (y : Int) * (W : Int) := Int.mul_nonneg (by omega) (by omega)
          have v1 : (y : Int) * (W : Int) + (x : Int) < (W : Int) * (H : Int) := by rw [← Int.natCast_mul, ← Int.natCast_mul]; omega
          have v2 : (y : Int) * (W : Int) + (x : Int) < ((W * H : Nat) : Int) := by rw [← Int.natCast_mul]; omega
          have v3 : (W : Int) * (H : Int) ≤ 16000000 := by rw [← Int.natCast_mul]; omega
          obtain ⟨t, ht⟩ : ∃ t, t = z (y * W + x) := ⟨_, rfl⟩
          rw [← ht] at hpx
          have HT := Lib.hid ht
          clear hfit ht
          cases t
          · go_wp2_with fail
            go_roundw
            case rel => exact ⟨x + 1, by omega, by go_num, HNo.out y x _ hltx hlt HT.out.symm hIx, HKx.out⟩
            case measure => simp [intOf]; omega
          · go_wp2_with (go_at_fn clo; refine (HY.out y x _ hltx hlt HT.out.symm hIx).mono ?_; rintro e w' ⟨rfl, hI', hk'⟩)
            go_roundw
            case rel => exact ⟨x + 1, by omega, by go_num, hI', fun b hb => (hk' b hb).trans (HKx.out b hb)⟩
            case measure => simp [intOf]; omega
        · obtain rfl : x = W := by omega
          go_wp2_with fail
          go_roundw
          case rel => exact ⟨y + 1, by omega, by go_num, HR.out y _ hlt hIx, HKx.out⟩
          case measure => simp [intOf]; omega
    · have hye := Lib.hid (show y = H by omega)
      go_wp2_with fail
      go_end0
      exact ⟨rfl, by have h := hI; rw [hye.out] at h; exact h⟩

end Go.Proofs.Ytofcojcfcpfdmaa

namespace Go.Proofs.Ytofcojcfcpfdmaa
open Go.RowKit
set_option linter.unusedSimpArgs false
set_option linter.unusedVariables false

theorem numsOf_congr {f g : Nat → Nat} {n : Nat} (h : ∀ j, j < n → f j = g j) : numsOf f n = numsOf g n := by
  unfold numsOf
  refine List.map_congr_left fun k hk => ?_
  rw [h k (by simpa using hk)]
theorem numsOf_set {f g : Nat → Nat} {n j v : Nat} (hj : j < n) (hv : g j = v) (h : ∀ i, i < n → i ≠ j → g i = f i) : (numsOf f n).set j (.int .i64 ((v : Nat) : Int)) = numsOf g n := by
  refine List.ext_getElem? fun k => ?_
  rw [List.getElem?_set]
  by_cases hk : k < n
  · rw [numsOf_get g n k hk]
    by_cases e : j = k
    · subst e; simp [numsOf, hv, hj]
    · rw [if_neg e, numsOf_get f n k hk, h k hk fun e' => e e'.symm]
  · have h1 : (numsOf g n)[k]? = none := by simp [numsOf]; omega
    have h2 : (numsOf f n)[k]? = none := by simp [numsOf]; omega
    rw [h1]
    by_cases e : j = k
    · omega
    · rw [if_neg e, h2]
/-- What holds between two pixels: the counts, in the row ab; what lies below is as it was; the box of the counts. -/
def CountRel (ab cb : Nat) (f : Nat → Nat) (n : Nat) (w2 wx : World) : Prop :=
  wx.ownsRow ab 3 1 (.slice (some ⟨ab, 0, none⟩) n n) n (numsOf f n) ∧ Below ab w2 wx ∧ wx.cell? ⟨cb, 0, none⟩ = some (.slice (some ⟨ab, 0, none⟩) n n)

theorem CountRel.get {ab cb n j : Nat} {f : Nat → Nat} {w2 wx : World} (h : CountRel ab cb f n w2 wx) (hj : j < n) : wx.cell? ⟨ab, j, none⟩ = some (.int .i64 ((f j : Nat) : Int)) := by
  rw [h.1.cellAt j (by omega), numsOf_get f n j hj]
theorem CountRel.store {ab cb n j : Nat} {f g : Nat → Nat} {w2 wx : World} (h : CountRel ab cb f n w2 wx) (hc : cb ≠ ab) (hj : j < n) (hg : g j = f j + 1) (ho : ∀ i, i < n → i ≠ j → g i = f i) : CountRel ab cb g n w2 (wx.setCell ⟨ab, j, none⟩ (.int .i64 ((f j + 1 : Nat) : Int))) := by
  refine ⟨?_, h.2.1.setCell (Nat.le_refl _) _, ?_⟩
  · have := (h.1.stored j (.int .i64 ((f j + 1 : Nat) : Int))).1
    rw [numsOf_set hj hg ho] at this
    exact this
  · rw [World.cell?_of_block (Below.heap_setCell _ _ _ _ (by simpa using hc))]
    exact h.2.2
theorem CountRel.same {ab cb n : Nat} {f g : Nat → Nat} {w2 wx : World} (h : CountRel ab cb f n w2 wx) (he : ∀ i, i < n → f i = g i) : CountRel ab cb g n w2 wx :=
  ⟨by rw [← numsOf_congr he]; exact h.1, h.2⟩

end Go.Proofs.Ytofcojcfcpfdmaa

namespace Go.Proofs.Ytofcojcfcpfdmaa
open Go.RowKit
set_option linter.unusedSimpArgs false
set_option linter.unusedVariables false

/-- What a list of counts is, in memory: nothing with an error, else the counts. -/
def ListIs (E : Int) (f : Nat → Nat) (m B : Nat) (w : World) (sl : Option Addr) (n' c' : Nat) : Prop :=
  (E ≠ 0 ∧ sl = none ∧ n' = 0 ∧ c' = 0) ∨ (E = 0 ∧ n' = m ∧ ∃ g, B ≤ g ∧ sl = some ⟨g, 0, none⟩ ∧ ∀ k, k < m → w.cell? ⟨g, 0 + k, none⟩ = some (.int .i64 ((f k : Nat) : Int)))

theorem ListIs.later {E : Int} {f : Nat → Nat} {m B : Nat} {w w' : World} {sl : Option Addr} {n' c' : Nat} (h : ListIs E f m B w sl n' c') (hb : Below w.heap.size w w') : ListIs E f m B w' sl n' c' := by
  rcases h with h | ⟨h1, h2, g, h3, h4, h5⟩
  · exact .inl h
  · exact .inr ⟨h1, h2, g, h3, h4, fun k hk => cell_later hb (h5 k hk)⟩

end Go.Proofs.Ytofcojcfcpfdmaa
namespace Go.Proofs.Ytofcojcfcpfdmaa
open Go.RowKit
set_option linter.unusedSimpArgs false
set_option linter.unusedVariables false

/-- A list of numbers in memory. -/
def intsOf (f : Nat → Int) (n : Nat) : List Value := (List.range n).map fun k => Value.int .i64 (f k)
theorem intsOf_get (f : Nat → Int) (n k : Nat) (h : k < n) : (intsOf f n)[k]? = some (.int .i64 (f k)) := by simp [intsOf, List.getElem?_range h]
theorem intsOf_length (f : Nat → Int) (n : Nat) : (intsOf f n).length = n := by simp [intsOf]
theorem intsOf_set {f g : Nat → Int} {n j : Nat} {v : Int} (hj : j < n) (hv : g j = v) (h : ∀ i, i < n → i ≠ j → g i = f i) : (intsOf f n).set j (.int .i64 v) = intsOf g n := by
  apply List.ext_getElem?
  intro k
  rw [List.getElem?_set]
  by_cases e : j = k
  · subst e
    rw [if_pos rfl, intsOf_length, if_pos hj, intsOf_get g n j hj, hv]
  · rw [if_neg e]
    by_cases hk : k < n
    · rw [intsOf_get f n k hk, intsOf_get g n k hk, h k hk (fun e' => e e'.symm)]
    · rw [List.getElem?_eq_none (by rw [intsOf_length]; omega), List.getElem?_eq_none (by rw [intsOf_length]; omega)]
theorem intsOf_zero (n : Nat) : List.replicate n (Value.int .i64 0) = intsOf (fun _ => 0) n := by
  apply List.ext_getElem?
  intro k
  by_cases hk : k < n
  · rw [intsOf_get _ n k hk]; simp [hk]
  · rw [List.getElem?_eq_none (by simp; omega), List.getElem?_eq_none (by rw [intsOf_length]; omega)]
theorem intsOf_congr {f g : Nat → Int} {n : Nat} (h : ∀ j, j < n → f j = g j) : intsOf f n = intsOf g n := by
  apply List.ext_getElem?
  intro k
  by_cases hk : k < n
  · rw [intsOf_get f n k hk, intsOf_get g n k hk, h k hk]
  · rw [List.getElem?_eq_none (by rw [intsOf_length]; omega), List.getElem?_eq_none (by rw [intsOf_length]; omega)]

/-- By how much a column goes. -/
def fallV (L : Nat) (n : Int) (x : Nat) : Int := shiftV (n * ((x : Int) - (((L - 1) / 2 : Nat) : Int)))

theorem fall_prod {L x : Nat} {n : Int} (hL : L ≤ 4000) (hn : -256 ≤ n ∧ n ≤ 256) (hx : x < L) : -1100000 ≤ n * ((x : Int) - (((L - 1) / 2 : Nat) : Int)) ∧ n * ((x : Int) - (((L - 1) / 2 : Nat) : Int)) ≤ 1100000 := by
  obtain ⟨d, hd⟩ : ∃ d, d = (x : Int) - (((L - 1) / 2 : Nat) : Int) := ⟨_, rfl⟩
  rw [← hd]
  have h1 : -4000 ≤ d ∧ d ≤ 4000 := by omega
  have h2 : (n * d).natAbs ≤ 256 * 4000 := by rw [Int.natAbs_mul]; exact Nat.mul_le_mul (by omega) (by omega)
  omega
theorem fallV_bounds {L x : Nat} {n : Int} (hL : L ≤ 4000) (hn : -256 ≤ n ∧ n ≤ 256) (hx : x < L) : -1100 ≤ fallV L n x ∧ fallV L n x ≤ 1100 := shiftV_bounds (fall_prod hL hn hx)
theorem fallV_neg (L : Nat) (n : Int) (x : Nat) : fallV L (-n) x = - fallV L n x := by unfold fallV; rw [Int.neg_mul, shiftV_neg]

set_option maxHeartbeats 800000 in
theorem shifts_any (L : Nat) (n : Int) (w : World) (hL : 1 ≤ L ∧ L ≤ 4000) (hn : -256 ≤ n ∧ n ≤ 256) :
    Calls Try.prog 73 #[.int .i64 L, .int .i64 n] w fun e w' => ∃ v, e = .returned v ∧ w'.ownsRow w.heap.size 3 1 v L (intsOf (fallV L n) L) ∧ Below w.heap.size w w' := by
  obtain ⟨i0, hi, hz0, hz1, hz2⟩ := info_parts info_int
  obtain ⟨m, hm⟩ : ∃ m, m = (L - 1) / 2 := ⟨_, rfl⟩
  have e1 : ((L : Int) - 1) / 2 = (m : Int) := by omega
  have hm2 : m ≤ 4000 := by omega
  have HM := Lib.hid hm
  have HN := Lib.hid hn
  obtain ⟨n1, n2⟩ := hn
  clear hm
  go_enter Try.func73, Try.ntmps73
  go_wp2_with (at_make; refine wpList_make_full _ rfl _ _ 52 rfl w.heap.size 3 i0 (.int .i64 0) 1 Try.underlying52 hi hz0 hz1 _ _ _ _ L rfl rfl rfl rfl (by rw [hz2]; omega) (by unfold maxLen; omega) (by simp) ?_)
  intro w1 hown1 hgrow1
  rw [toList_madeCells_one, intsOf_zero] at hown1
  have hb1 := (Below.refl w.heap.size _).grown hgrow1 (by simp) (by simp)
  have HST := Lib.hid (show w1.ownsRow w.heap.size 3 1 (.slice (some ⟨w.heap.size, 0, none⟩) L L) L (intsOf (fun j => if j < 0 then fallV L n j else 0) L) ∧ Below w.heap.size w w1 from ⟨by rw [intsOf_congr (g := fun _ => 0) (fun j _ => if_neg (by omega))]; exact hown1, hb1⟩)
  clear hgrow1 hb1 hown1
  go_wp2_with fail
  go_loopw [15] (fun i wr => ∃ j : Nat, j ≤ L ∧ i = .int .i64 j ∧ Hid (wr.ownsRow w.heap.size 3 1 (.slice (some ⟨w.heap.size, 0, none⟩) L L) L (intsOf (fun k => if k < j then fallV L n k else 0) L) ∧ Below w.heap.size w wr)) (fun i _ => L - (intOf i).toNat)
  case atStart => exact ⟨0, Nat.zero_le _, rfl, HST⟩
  case round =>
    obtain ⟨j, hj, rfl, HR⟩ := hrel
    by_cases hlt : j < L
    · have hcell := HR.out.1.cellAt j (by omega)
      rw [intsOf_get _ _ _ hlt, if_neg (by omega)] at hcell
      have hfz := HR.out.1.frozenAt j
      have hpr := fall_prod hL.2 HN.out hlt
      rw [← HM.out] at hpr
      obtain ⟨p, hp⟩ : ∃ p, p = n * ((j : Int) - (m : Int)) := ⟨_, rfl⟩
      rw [← hp] at hpr
      have hp' : n * ((j : Int) - (m : Int)) = p := hp.symm
      obtain ⟨p1, p2⟩ := hpr
      have i1 : (j : Int) < (L : Int) := by omega
      have HP := Lib.hid hp
      clear hp
      go_wp2_with fail
      refine (shift_any p _ ⟨p1, p2⟩).mono ?_
      rintro e wq ⟨rfl, rfl⟩
      obtain ⟨s, hs⟩ : ∃ s, s = shiftV p := ⟨_, rfl⟩
      have hsf : fallV L n j = s := by rw [hs]; unfold fallV; rw [HP.out, ← HM.out]
      rw [← hs]
      have HS := Lib.hid hsf
      clear hs hsf
      go_wp2_with fail
      go_roundw
      case rel =>
        refine ⟨j + 1, by omega, by go_num, Lib.hid ⟨?_, HR.out.2.setCell (by simp) _⟩⟩
        have h := (HR.out.1.stored j (.int .i64 s)).1
        rw [intsOf_set (g := fun k => if k < j + 1 then fallV L n k else 0) hlt (by rw [if_pos (by omega)]; exact HS.out) (fun i _ hne => by
          by_cases h1 : i < j
          · rw [if_pos (by omega), if_pos h1]
          · rw [if_neg (by omega), if_neg h1])] at h
        exact h
      case measure => simp [intOf]; omega
    · obtain rfl : j = L := by omega
      go_wp2_with fail
      go_ret
      refine ⟨_, rfl, ?_, HR.out.2⟩
      have h := HR.out.1
      rw [intsOf_congr (g := fallV j n) (fun k hk => if_pos hk)] at h
      exact h

end Go.Proofs.Ytofcojcfcpfdmaa
