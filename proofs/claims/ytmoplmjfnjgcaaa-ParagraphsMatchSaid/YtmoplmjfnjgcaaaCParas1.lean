/-
  What paras_holds leans on: contracts of the functions that it calls.
-/
import Derived.Test.YtmoplmjfnjgcaaaRows
import Derived.WalkKit
import Derived.WalkSpells
import Derived.WalkLawsBesides
import Derived.Lib.Hide
import Derived.Deep.RegionHeld3
import Derived.Shelf.Abstract
import Derived.Deep.QuietTactic
import Derived.BigQuiet
import Derived.Deep.AppendLies
import Derived.Deep.DrawnRows
import Derived.Deep.RegionLaw
import Derived.ProofKit
import Derived.OpenShut
import Derived.ShutString
import Derived.ChangeOld
import Derived.Lib.SmallJoins
import Derived.Deep.Grids
import Derived.Deep.DeepCutAuto
import Derived.Lib.MinMax
import Derived.Deep.CutRange
import Derived.Laws.EntriesVeiled
import Derived.StillTailTactics
import Derived.RegionTactic
import Derived.ChangeAlike
import Derived.BigRegion
import Derived.Deep.OwnRows
namespace Go.Proofs.Ytmoplmjfnjgcaaa
open Go.RowKit
set_option linter.unusedSimpArgs false
set_option linter.unusedVariables false

theorem ret_int {k : IntKind} {a b : Int} (h : a = b) : Ending.returned (.int k a) = .returned (.int k b) := by rw [h]
theorem ret_bool {a b : Bool} (h : a = b) : Ending.returned (.bool a) = .returned (.bool b) := by rw [h]

/-- 'e, if c, else no error'. -/
def whenI (c : Bool) (e : Int) : Int := if c then e else 0

theorem when_any (c : Bool) (e : Int) (w : World) : Calls Try.prog 102 #[.bool c, .int .i64 e] w fun r w' => r = .returned (.int .i64 (whenI c e)) ∧ w = w' := by
  cases c
  · go_enter Try.func102, Try.ntmps102
    go_wp2
    go_ret
    exact ⟨rfl, rfl⟩
  · go_enter Try.func102, Try.ntmps102
    go_wp2
    go_ret
    exact ⟨rfl, rfl⟩

theorem outside_no (n a b : Int) (w : World) (h : a ≤ n ∧ n ≤ b) : Calls Try.prog 29 #[.int .i64 n, .int .i64 a, .int .i64 b] w fun r w' => r = .returned (.bool false) ∧ w = w' := by
  obtain ⟨h1, h2⟩ := h
  have h3 : ¬ n < a := by omega
  have h4 : ¬ b < n := by omega
  go_enter Try.func29, Try.ntmps29
  go_wp2
  go_ret
  exact ⟨rfl, rfl⟩
theorem outside_yes (n a b : Int) (w : World) (h : ¬ (a ≤ n ∧ n ≤ b)) : Calls Try.prog 29 #[.int .i64 n, .int .i64 a, .int .i64 b] w fun r w' => r = .returned (.bool true) ∧ w = w' := by
  by_cases h1 : n < a
  · clear h
    go_enter Try.func29, Try.ntmps29
    go_wp2
    go_ret
    exact ⟨rfl, rfl⟩
  · have h4 : b < n := by omega
    clear h
    go_enter Try.func29, Try.ntmps29
    go_wp2
    go_ret
    exact ⟨rfl, rfl⟩
/-- The error of a size. -/
def sizeErr (w h : Int) : Int := if w < 1 ∨ h < 1 ∨ 4000 < w ∨ 4000 < h then 3 else if 1048576 < w * h then 4 else 0

end Go.Proofs.Ytmoplmjfnjgcaaa
namespace Go.Proofs.Ytmoplmjfnjgcaaa
open Go.RowKit
set_option linter.unusedSimpArgs false
set_option linter.unusedVariables false

/-- The first of two errors. -/
def orI (x y : Int) : Int := if x = 0 then y else x

theorem new_below (w : World) (o : Obj) : Below w.heap.size w (w.alloc o) := (Below.refl _ _).alloc (Nat.le_refl _) _
theorem below_step {w a b : World} (h : Below w.heap.size w a) (k : Below a.heap.size a b) : Below w.heap.size w b := h.trans (k.mono h.size)
theorem below_alloc {w a : World} (h : Below w.heap.size w a) (o : Obj) : Below w.heap.size w (a.alloc o) := h.alloc h.size o

/-- The error of a page: of its size, else of the number of its pixels. -/
def pageErr (a b : Int) (n : Nat) : Int := if sizeErr a b = 0 then (if (n : Int) = a * b then 0 else 2) else sizeErr a b

end Go.Proofs.Ytmoplmjfnjgcaaa
namespace Go.Proofs.Ytmoplmjfnjgcaaa
open Go.RowKit
set_option linter.unusedSimpArgs false
set_option linter.unusedVariables false

theorem below_owns {w w' : World} {base : Nat} {e : TypeId} {size : Nat} {v : Value} {n : Nat} {xs : List Value} (h : w.ownsRow base e size v n xs) (hb : Below w.heap.size w w') : w'.ownsRow base e size v n xs :=
  h.kept (row := none) ⟨hb.os, hb.tape, hb.output, hb.size, fun k hk _ => hb.block k hk⟩ (by cases v.ownBlock <;> simp)

theorem info_int : (Try.prog.info? 3).map (fun i => (i.zero, i.size, i.bytes)) = some (some (.int .i64 0), 1, 8) := by kernel_rfl

theorem owns_base {w : World} {base base' : Nat} {e : TypeId} {size : Nat} {v : Value} {n : Nat} {xs : List Value} (h : w.ownsRow base e size v n xs) (hb : base' ≤ base) : w.ownsRow base' e size v n xs := by
  obtain ⟨h1, h2⟩ := h
  refine ⟨h1, ?_⟩
  rcases h2 with h2 | ⟨g, cap, cur, hv, hg, r⟩
  · exact Or.inl h2
  · exact Or.inr ⟨g, cap, cur, hv, Nat.le_trans hb hg, r⟩

theorem below_drewN {B : Nat} {a w : World} (h : Below B a w) (q : Nat) : Below B a (w.drewN q) := ⟨h.os, h.tape, h.output, h.size, h.block⟩

theorem below_block {w w' : World} {b : Nat} {o : Obj} (hb : Below w.heap.size w w') (h : w.heap[b]? = some o) : w'.heap[b]? = some o :=
  (hb.block b (Array.getElem?_eq_some_iff.1 h).1).trans h
theorem grown_block {w w' : World} {b : Nat} {o : Obj} {row : Option Nat} (hg : w.grownBy w' row) (h : w.heap[b]? = some o) (hne : some b ≠ row) : w'.heap[b]? = some o :=
  (hg.block b (Array.getElem?_eq_some_iff.1 h).1 hne).trans h

end Go.Proofs.Ytmoplmjfnjgcaaa
namespace Go.Proofs.Ytmoplmjfnjgcaaa
open Go.RowKit
set_option linter.unusedSimpArgs false
set_option linter.unusedVariables false

set_option maxRecDepth 100000 in
theorem equalInt_true (g1 o1 g2 o2 n c1 c2 : Nat) (z : Nat → Int) (w : World) (hn : n ≤ 100000000)
    (h1 : ∀ j, j < n → w.cell? ⟨g1, o1 + j, none⟩ = some (.int .i64 (z j))) (h2 : ∀ j, j < n → w.cell? ⟨g2, o2 + j, none⟩ = some (.int .i64 (z j))) :
    Calls Try.prog 26 #[.slice (some ⟨g1, o1, none⟩) n c1, .slice (some ⟨g2, o2, none⟩) n c2] w fun e w' => e = .returned (.bool true) ∧ ∃ q, w' = w.drewN q := by
  have H1 := Lib.hid h1
  have H2 := Lib.hid h2
  clear h1 h2
  go_enter Try.func26, Try.ntmps26
  go_wp2
  go_loopw [13] (fun i wr => ∃ k q : Nat, k ≤ n ∧ i = .int .i64 k ∧ wr = w.drewN q) (fun i _ => n - (intOf i).toNat)
  case atStart => exact ⟨0, 0, Nat.zero_le _, rfl, rfl⟩
  case round =>
    obtain ⟨k, q, hk, rfl, rfl⟩ := hrel
    by_cases hlt : k < n
    · have e1 := H1.out k hlt
      have e2 := H2.out k hlt
      generalize z k = x at e1 e2
      have i1 : (k : Int) < (n : Int) := by omega
      have i0 : (0 : Int) ≤ (k : Int) := by omega
      go_wp2
      go_quiet (fail)
      go_wp2
      go_roundw
      case rel => exact ⟨k + 1, _, by omega, by go_num, rfl⟩
      case measure => simp [intOf]; omega
    · go_wp2
      go_ret
      exact ⟨rfl, q, rfl⟩

end Go.Proofs.Ytmoplmjfnjgcaaa
namespace Go.Proofs.Ytmoplmjfnjgcaaa
open Go.RowKit
set_option linter.unusedSimpArgs false
set_option linter.unusedVariables false

/-- A box is in a page of W by H. -/
def InP (X Y bw bh : Int) (W H : Int) : Prop := (0 ≤ X ∧ X ≤ W - 1) ∧ (0 ≤ Y ∧ Y ≤ H - 1) ∧ (1 ≤ bw ∧ bw ≤ W - X) ∧ (1 ≤ bh ∧ bh ≤ H - Y)

end Go.Proofs.Ytmoplmjfnjgcaaa
namespace Go.Proofs.Ytmoplmjfnjgcaaa
open Go.ChangeShapes Go.WideShapes Go.ChangeAt Go.RowKit Go.Joins
open Go.ChangeMaps (open_string shut_string)
set_option linter.unusedVariables false

theorem own : ownKnob Try.prog.godebug = none := by kernel_rfl
theorem laidOut : laidOutB Try.prog = true := by kernel_rfl
end Go.Proofs.Ytmoplmjfnjgcaaa
namespace Go.Proofs.Ytmoplmjfnjgcaaa
open Go.RowKit
set_option linter.unusedSimpArgs false
set_option linter.unusedVariables false

instance (X Y bw bh W H : Int) : Decidable (InP X Y bw bh W H) := by unfold InP; infer_instance

/-- The error of a cut: of the page, else of the box. -/
def cutErr (a b : Int) (n : Nat) (X Y bw bh : Int) : Int := if pageErr a b n = 0 then (if InP X Y bw bh a b then 0 else 13) else pageErr a b n

/-- What a cut is, in memory: nothing with an error; else the places of the box. -/
def CutIs (a b : Int) (n : Nat) (X Y bw bh : Int) (z : Nat → Bool) (B : Nat) (w : World) (i j : Int) (sl : Option Addr) (n' c' : Nat) : Prop :=
  (cutErr a b n X Y bw bh ≠ 0 ∧ i = 0 ∧ j = 0 ∧ sl = none ∧ n' = 0 ∧ c' = 0) ∨
  (cutErr a b n X Y bw bh = 0 ∧ i = bw ∧ j = bh ∧ n' = bw.toNat * bh.toNat ∧ ∃ g, B ≤ g ∧ sl = some ⟨g, 0, none⟩ ∧ ∀ k, k < n' → w.cell? ⟨g, 0 + k, none⟩ = some (.bool (z ((Y.toNat + k / bw.toNat) * a.toNat + X.toNat + k % bw.toNat))))

theorem CutIs.later {a b : Int} {n : Nat} {X Y bw bh : Int} {z : Nat → Bool} {B : Nat} {w w' : World} {i j : Int} {sl : Option Addr} {n' c' : Nat} (h : CutIs a b n X Y bw bh z B w i j sl n' c') (hb : Below w.heap.size w w') : CutIs a b n X Y bw bh z B w' i j sl n' c' := by
  rcases h with h | ⟨h1, h2, h3, h4, g, h5, h6, h7⟩
  · exact .inl h
  · exact .inr ⟨h1, h2, h3, h4, g, h5, h6, fun k hk => cell_later hb (h7 k hk)⟩
end Go.Proofs.Ytmoplmjfnjgcaaa
namespace Go.Proofs.Ytmoplmjfnjgcaaa
open Go.RowKit
set_option linter.unusedSimpArgs false
set_option linter.unusedVariables false

/-- The sum of the first n of f. -/
def sumN (f : Nat → Nat) : Nat → Nat
  | 0 => 0
  | n + 1 => sumN f n + f n

/-- The ink of one row of a box. -/
def ink1 (z : Nat → Bool) (W X y : Nat) (n : Nat) : Nat := sumN (fun i => (z (y * W + (X + i))).toNat) n
end Go.Proofs.Ytmoplmjfnjgcaaa

namespace Go.Proofs.Ytmoplmjfnjgcaaa
open Go.RowKit
set_option linter.unusedSimpArgs false
set_option linter.unusedVariables false

end Go.Proofs.Ytmoplmjfnjgcaaa
namespace Go.Proofs.Ytmoplmjfnjgcaaa
set_option linter.unusedSimpArgs false
set_option linter.unusedVariables false

/-- The sum of n values from k on. -/
def rowSum (P : Nat → Int) (k : Nat) : Nat → Int
  | 0 => 0
  | n + 1 => rowSum P k n + P (k + n)

/-- The sum of a rectangle of a page that is W wide: from (x, y) on, nx wide and ny high. -/
def rectSum (P : Nat → Int) (W y x nx : Nat) : Nat → Int
  | 0 => 0
  | n + 1 => rectSum P W y x nx n + rowSum P ((y + n) * W + x) nx

end Go.Proofs.Ytmoplmjfnjgcaaa
namespace Go.Proofs.Ytmoplmjfnjgcaaa
open Go.RowKit
set_option linter.unusedSimpArgs false
set_option linter.unusedVariables false

end Go.Proofs.Ytmoplmjfnjgcaaa

namespace Go.Proofs.Ytmoplmjfnjgcaaa
open Go.RowKit
set_option linter.unusedSimpArgs false
set_option linter.unusedVariables false

end Go.Proofs.Ytmoplmjfnjgcaaa

namespace Go.Proofs.Ytmoplmjfnjgcaaa
open Go.RowKit
set_option linter.unusedSimpArgs false
set_option linter.unusedVariables false

/-- The counts of the rows while the pixel (x, y) is the next one. -/
def rowsAt (z : Nat → Bool) (W y x j : Nat) : Nat := if j < y then ink1 z W 0 j W else if j = y then ink1 z W 0 y x else 0
/-- The ink of the first y places of a column. -/
def colN (z : Nat → Bool) (W i y : Nat) : Nat := sumN (fun k => (z (k * W + i)).toNat) y
def colsAt (z : Nat → Bool) (W y x i : Nat) : Nat := if i < x then colN z W i (y + 1) else colN z W i y

theorem rowsAt_row (z : Nat → Bool) (W y j : Nat) : rowsAt z W y W j = rowsAt z W (y + 1) 0 j := by
  unfold rowsAt
  by_cases h : j < y
  · rw [if_pos h, if_pos (by omega)]
  · rw [if_neg h]
    by_cases e : j = y
    · rw [if_pos e, if_pos (by omega), e]
    · rw [if_neg e, if_neg (by omega)]
      split <;> simp [ink1, sumN]
theorem colsAt_row (z : Nat → Bool) (W y i : Nat) (h : i < W) : colsAt z W y W i = colsAt z W (y + 1) 0 i := by
  unfold colsAt
  rw [if_pos h, if_neg (by omega)]
end Go.Proofs.Ytmoplmjfnjgcaaa

namespace Go.Proofs.Ytmoplmjfnjgcaaa
open Go.RowKit
set_option linter.unusedSimpArgs false
set_option linter.unusedVariables false

/-- What a list of counts is, in memory: nothing with an error, else the counts. -/
def ListIs (E : Int) (f : Nat → Nat) (m B : Nat) (w : World) (sl : Option Addr) (n' c' : Nat) : Prop :=
  (E ≠ 0 ∧ sl = none ∧ n' = 0 ∧ c' = 0) ∨ (E = 0 ∧ n' = m ∧ ∃ g, B ≤ g ∧ sl = some ⟨g, 0, none⟩ ∧ ∀ k, k < m → w.cell? ⟨g, 0 + k, none⟩ = some (.int .i64 ((f k : Nat) : Int)))

theorem ListIs.later {E : Int} {f : Nat → Nat} {m B : Nat} {w w' : World} {sl : Option Addr} {n' c' : Nat} (h : ListIs E f m B w sl n' c') (hb : Below w.heap.size w w') : ListIs E f m B w' sl n' c' := by
  rcases h with h | ⟨h1, h2, g, h3, h4, h5⟩
  · exact .inl h
  · exact .inr ⟨h1, h2, g, h3, h4, fun k hk => cell_later hb (h5 k hk)⟩

end Go.Proofs.Ytmoplmjfnjgcaaa
namespace Go.Proofs.Ytmoplmjfnjgcaaa
open Go.RowKit
set_option linter.unusedSimpArgs false
set_option linter.unusedVariables false

end Go.Proofs.Ytmoplmjfnjgcaaa

namespace Go.Proofs.Ytmoplmjfnjgcaaa
open Go.RowKit
set_option linter.unusedSimpArgs false
set_option linter.unusedVariables false

theorem block4 {w : World} {b : Nat} {x y z u : Value} {t : TypeId} (h : w.heap[b]? = some (.cells #[x, y, z, u] t (0, 0))) :
    (w.cell? ⟨b, 0, none⟩ = some x ∧ w.cell? ⟨b, 1, none⟩ = some y ∧ w.cell? ⟨b, 2, none⟩ = some z ∧ w.cell? ⟨b, 3, none⟩ = some u) ∧ w.frozen? ⟨b, 0, none⟩ = false ∧ w.frozen? ⟨b, 1, none⟩ = false ∧ w.frozen? ⟨b, 2, none⟩ = false ∧ w.frozen? ⟨b, 3, none⟩ = false := by
  exact ⟨⟨by rw [cell_of_row w b 0 _ t (0, 0) h]; rfl, by rw [cell_of_row w b 1 _ t (0, 0) h]; rfl, by rw [cell_of_row w b 2 _ t (0, 0) h]; rfl, by rw [cell_of_row w b 3 _ t (0, 0) h]; rfl⟩, frozen_of_row w b 0 _ t h, frozen_of_row w b 1 _ t h, frozen_of_row w b 2 _ t h, frozen_of_row w b 3 _ t h⟩

end Go.Proofs.Ytmoplmjfnjgcaaa
namespace Go.Proofs.Ytmoplmjfnjgcaaa
open Go.RowKit
set_option linter.unusedSimpArgs false
set_option linter.unusedVariables false

/-- The error of a box of any place. -/
def bxErr (X Y bw bh : Int) : Int := if ((-1048576 ≤ X ∧ X ≤ 1048576) ∧ (-1048576 ≤ Y ∧ Y ≤ 1048576)) ∧ (1 ≤ bw ∧ bw ≤ 1048576) ∧ (1 ≤ bh ∧ bh ≤ 1048576) then 0 else 3

set_option maxHeartbeats 800000 in
set_option maxRecDepth 100000 in
theorem checkBox_any (X Y bw bh : Int) (w : World) : Calls Try.prog 99 #[.agg #[.int .i64 X, .int .i64 Y, .int .i64 bw, .int .i64 bh]] w fun e w' => e = .returned (.int .i64 (bxErr X Y bw bh)) ∧ Below w.heap.size w w' := by
  by_cases h1 : -1048576 ≤ X ∧ X ≤ 1048576
  · have H1 := Lib.hid h1
    by_cases h2 : -1048576 ≤ Y ∧ Y ≤ 1048576
    · have H2 := Lib.hid h2
      by_cases h3 : 1 ≤ bw ∧ bw ≤ 1048576
      · have H3 := Lib.hid h3
        by_cases h4 : 1 ≤ bh ∧ bh ≤ 1048576
        · have H4 := Lib.hid h4
          have HE := Lib.hid (show bxErr X Y bw bh = 0 by unfold bxErr; rw [if_pos ⟨⟨h1, h2⟩, h3, h4⟩])
          clear h1 h2 h3 h4
          go_enter Try.func99, Try.ntmps99
          go_wp2_with (first | (go_at_call 29; (with_reducible refine (outside_no X (-1048576) 1048576 _ H1.out).mono ?_); rintro e w' ⟨rfl, rfl⟩) | (go_at_call 29; (with_reducible refine (outside_no Y (-1048576) 1048576 _ H2.out).mono ?_); rintro e w' ⟨rfl, rfl⟩) | (go_at_call 29; (with_reducible refine (outside_no bw 1 1048576 _ H3.out).mono ?_); rintro e w' ⟨rfl, rfl⟩) | (go_at_call 29; (with_reducible refine (outside_no bh 1 1048576 _ H4.out).mono ?_); rintro e w' ⟨rfl, rfl⟩))
          go_ret
          exact ⟨ret_int HE.out.symm, new_below _ _⟩
        · have H4 := Lib.hid h4
          have HE := Lib.hid (show bxErr X Y bw bh = 3 by unfold bxErr; rw [if_neg (fun h => h4 h.2.2)])
          clear h1 h2 h3 h4
          go_enter Try.func99, Try.ntmps99
          go_wp2_with (first | (go_at_call 29; (with_reducible refine (outside_no X (-1048576) 1048576 _ H1.out).mono ?_); rintro e w' ⟨rfl, rfl⟩) | (go_at_call 29; (with_reducible refine (outside_no Y (-1048576) 1048576 _ H2.out).mono ?_); rintro e w' ⟨rfl, rfl⟩) | (go_at_call 29; (with_reducible refine (outside_no bw 1 1048576 _ H3.out).mono ?_); rintro e w' ⟨rfl, rfl⟩) | (go_at_call 29; (with_reducible refine (outside_yes bh 1 1048576 _ H4.out).mono ?_); rintro e w' ⟨rfl, rfl⟩))
          go_ret
          exact ⟨ret_int HE.out.symm, new_below _ _⟩
      · have H3 := Lib.hid h3
        have HE := Lib.hid (show bxErr X Y bw bh = 3 by unfold bxErr; rw [if_neg (fun h => h3 h.2.1)])
        clear h1 h2 h3
        go_enter Try.func99, Try.ntmps99
        go_wp2_with (first | (go_at_call 29; (with_reducible refine (outside_no X (-1048576) 1048576 _ H1.out).mono ?_); rintro e w' ⟨rfl, rfl⟩) | (go_at_call 29; (with_reducible refine (outside_no Y (-1048576) 1048576 _ H2.out).mono ?_); rintro e w' ⟨rfl, rfl⟩) | (go_at_call 29; (with_reducible refine (outside_yes bw 1 1048576 _ H3.out).mono ?_); rintro e w' ⟨rfl, rfl⟩))
        go_ret
        exact ⟨ret_int HE.out.symm, new_below _ _⟩
    · have H2 := Lib.hid h2
      have HE := Lib.hid (show bxErr X Y bw bh = 3 by unfold bxErr; rw [if_neg (fun h => h2 h.1.2)])
      clear h1 h2
      go_enter Try.func99, Try.ntmps99
      go_wp2_with (first | (go_at_call 29; (with_reducible refine (outside_no X (-1048576) 1048576 _ H1.out).mono ?_); rintro e w' ⟨rfl, rfl⟩) | (go_at_call 29; (with_reducible refine (outside_yes Y (-1048576) 1048576 _ H2.out).mono ?_); rintro e w' ⟨rfl, rfl⟩))
      go_ret
      exact ⟨ret_int HE.out.symm, new_below _ _⟩
  · have H1 := Lib.hid h1
    have HE := Lib.hid (show bxErr X Y bw bh = 3 by unfold bxErr; rw [if_neg (fun h => h1 h.1.1)])
    clear h1
    go_enter Try.func99, Try.ntmps99
    go_wp2_with (first | (go_at_call 29; (with_reducible refine (outside_yes X (-1048576) 1048576 _ H1.out).mono ?_); rintro e w' ⟨rfl, rfl⟩))
    go_ret
    exact ⟨ret_int HE.out.symm, new_below _ _⟩

theorem below_two {w a : World} {B b : Nat} {x y : Value} (h : Below B w a) (hb : B ≤ b) : Below B w ((a.setCell ⟨b, 0, none⟩ x).setCell ⟨b, 1, none⟩ y) := (h.setCell hb _).setCell hb _

theorem spanC_any (X Y bw bh : Int) (w : World) (hX : -2000000 ≤ X ∧ X ≤ 2000000) (hw : 0 ≤ bw ∧ bw ≤ 2000000) : Calls Try.prog 68 #[.agg #[.int .i64 X, .int .i64 Y, .int .i64 bw, .int .i64 bh]] w fun e w' => e = .returned (.agg #[.int .i64 X, .int .i64 (X + bw)]) ∧ Below w.heap.size w w' := by
  obtain ⟨x1, x2⟩ := hX
  obtain ⟨x3, x4⟩ := hw
  go_enter Try.func68, Try.ntmps68
  go_wp2_with fail
  exact bodyPost_ret (v := .agg #[.int .i64 X, .int .i64 (X + bw)]) (by simp [results, Try.results68, go_sem]) rfl ⟨rfl, by first | exact below_two (below_alloc (new_below _ _) _) (by simp) | exact below_alloc (new_below _ _) _⟩
theorem spanR_any (X Y bw bh : Int) (w : World) (hX : -2000000 ≤ Y ∧ Y ≤ 2000000) (hw : 0 ≤ bh ∧ bh ≤ 2000000) : Calls Try.prog 69 #[.agg #[.int .i64 X, .int .i64 Y, .int .i64 bw, .int .i64 bh]] w fun e w' => e = .returned (.agg #[.int .i64 Y, .int .i64 (Y + bh)]) ∧ Below w.heap.size w w' := by
  obtain ⟨x1, x2⟩ := hX
  obtain ⟨x3, x4⟩ := hw
  go_enter Try.func69, Try.ntmps69
  go_wp2_with fail
  exact bodyPost_ret (v := .agg #[.int .i64 Y, .int .i64 (Y + bh)]) (by simp [results, Try.results69, go_sem]) rfl ⟨rfl, by first | exact below_two (below_alloc (new_below _ _) _) (by simp) | exact below_alloc (new_below _ _) _⟩

@[local go_sem high] theorem run_max_three {P : Program} (w : World) (ts : Array TypeId) (t : TypeId) (k k' k'' : IntKind) (x y z : Int) :
    (Builtin.max_ ts t #[.int k x, .int k' y, .int k'' z]).run P w = .ok (.int k (max (max x y) z)) w := by
  have e1 : (if y > x then y else x) = max x y := by
    rw [Int.max_def]
    split <;> split <;> omega
  have e2 : (if z > max x y then z else max x y) = max (max x y) z := by
    rw [Int.max_def (max x y)]
    split <;> split <;> omega
  simp [Builtin.max_, Builtin.max2, e1, e2]

/-- Numbers of a box that is right. -/
def BxOK (X Y bw bh : Int) : Prop := ((-1048576 ≤ X ∧ X ≤ 1048576) ∧ (-1048576 ≤ Y ∧ Y ≤ 1048576)) ∧ (1 ≤ bw ∧ bw ≤ 1048576) ∧ (1 ≤ bh ∧ bh ≤ 1048576)

end Go.Proofs.Ytmoplmjfnjgcaaa
namespace Go.Proofs.Ytmoplmjfnjgcaaa
open Go.RowKit
set_option linter.unusedSimpArgs false
set_option linter.unusedVariables false

theorem far_no (n low : Int) (w : World) (h : low ≤ n ∧ n ≤ 1048576) : Calls Try.prog 101 #[.int .i64 n, .int .i64 low] w fun e w' => e = .returned (.bool false) ∧ w = w' := by
  obtain ⟨h1, h2⟩ := h
  have h3 : ¬ n < low := by omega
  have h4 : ¬ 1048576 < n := by omega
  go_enter Try.func101, Try.ntmps101
  go_wp2
  go_ret
  exact ⟨rfl, rfl⟩
theorem far_yes (n low : Int) (w : World) (h : ¬ (low ≤ n ∧ n ≤ 1048576)) : Calls Try.prog 101 #[.int .i64 n, .int .i64 low] w fun e w' => e = .returned (.bool true) ∧ w = w' := by
  by_cases h1 : n < low
  · clear h
    go_enter Try.func101, Try.ntmps101
    go_wp2
    go_ret
    exact ⟨rfl, rfl⟩
  · have h4 : 1048576 < n := by omega
    clear h
    go_enter Try.func101, Try.ntmps101
    go_wp2
    go_ret
    exact ⟨rfl, rfl⟩

set_option maxHeartbeats 800000 in
set_option maxRecDepth 100000 in
theorem boxErrR_any (X Y bw bh : Int) (w : World) : Calls Try.prog 72 #[.agg #[.int .i64 X, .int .i64 Y, .int .i64 bw, .int .i64 bh]] w fun e w' => e = .returned (.int .i64 (bxErr X Y bw bh)) ∧ Below w.heap.size w w' := by
  by_cases h1 : -1048576 ≤ X ∧ X ≤ 1048576
  · have H1 := Lib.hid h1
    by_cases h2 : -1048576 ≤ Y ∧ Y ≤ 1048576
    · have H2 := Lib.hid h2
      by_cases h3 : 1 ≤ bw ∧ bw ≤ 1048576
      · have H3 := Lib.hid h3
        by_cases h4 : 1 ≤ bh ∧ bh ≤ 1048576
        · have H4 := Lib.hid h4
          have HE := Lib.hid (show bxErr X Y bw bh = whenI false 3 by unfold bxErr; rw [if_pos ⟨⟨h1, h2⟩, h3, h4⟩]; rfl)
          clear h1 h2 h3 h4
          go_enter Try.func72, Try.ntmps72
          go_wp2_with (first | (go_at_call 101; (with_reducible refine (far_no X (-1048576) _ H1.out).mono ?_); rintro e w' ⟨rfl, rfl⟩) | (go_at_call 101; (with_reducible refine (far_no Y (-1048576) _ H2.out).mono ?_); rintro e w' ⟨rfl, rfl⟩) | (go_at_call 101; (with_reducible refine (far_no bw 1 _ H3.out).mono ?_); rintro e w' ⟨rfl, rfl⟩) | (go_at_call 101; (with_reducible refine (far_no bh 1 _ H4.out).mono ?_); rintro e w' ⟨rfl, rfl⟩) | (go_at_call 102; refine (when_any _ _ _).mono ?_; rintro e w' ⟨rfl, rfl⟩))
          go_ret
          exact ⟨ret_int HE.out.symm, new_below _ _⟩
        · have H4 := Lib.hid h4
          have HE := Lib.hid (show bxErr X Y bw bh = whenI true 3 by unfold bxErr; rw [if_neg (fun h => h4 h.2.2)]; rfl)
          clear h1 h2 h3 h4
          go_enter Try.func72, Try.ntmps72
          go_wp2_with (first | (go_at_call 101; (with_reducible refine (far_no X (-1048576) _ H1.out).mono ?_); rintro e w' ⟨rfl, rfl⟩) | (go_at_call 101; (with_reducible refine (far_no Y (-1048576) _ H2.out).mono ?_); rintro e w' ⟨rfl, rfl⟩) | (go_at_call 101; (with_reducible refine (far_no bw 1 _ H3.out).mono ?_); rintro e w' ⟨rfl, rfl⟩) | (go_at_call 101; (with_reducible refine (far_yes bh 1 _ H4.out).mono ?_); rintro e w' ⟨rfl, rfl⟩) | (go_at_call 102; refine (when_any _ _ _).mono ?_; rintro e w' ⟨rfl, rfl⟩))
          go_ret
          exact ⟨ret_int HE.out.symm, new_below _ _⟩
      · have H3 := Lib.hid h3
        have HE := Lib.hid (show bxErr X Y bw bh = whenI true 3 by unfold bxErr; rw [if_neg (fun h => h3 h.2.1)]; rfl)
        clear h1 h2 h3
        go_enter Try.func72, Try.ntmps72
        go_wp2_with (first | (go_at_call 101; (with_reducible refine (far_no X (-1048576) _ H1.out).mono ?_); rintro e w' ⟨rfl, rfl⟩) | (go_at_call 101; (with_reducible refine (far_no Y (-1048576) _ H2.out).mono ?_); rintro e w' ⟨rfl, rfl⟩) | (go_at_call 101; (with_reducible refine (far_yes bw 1 _ H3.out).mono ?_); rintro e w' ⟨rfl, rfl⟩) | (go_at_call 102; refine (when_any _ _ _).mono ?_; rintro e w' ⟨rfl, rfl⟩))
        go_ret
        exact ⟨ret_int HE.out.symm, new_below _ _⟩
    · have H2 := Lib.hid h2
      have HE := Lib.hid (show bxErr X Y bw bh = whenI true 3 by unfold bxErr; rw [if_neg (fun h => h2 h.1.2)]; rfl)
      clear h1 h2
      go_enter Try.func72, Try.ntmps72
      go_wp2_with (first | (go_at_call 101; (with_reducible refine (far_no X (-1048576) _ H1.out).mono ?_); rintro e w' ⟨rfl, rfl⟩) | (go_at_call 101; (with_reducible refine (far_yes Y (-1048576) _ H2.out).mono ?_); rintro e w' ⟨rfl, rfl⟩) | (go_at_call 102; refine (when_any _ _ _).mono ?_; rintro e w' ⟨rfl, rfl⟩))
      go_ret
      exact ⟨ret_int HE.out.symm, new_below _ _⟩
  · have H1 := Lib.hid h1
    have HE := Lib.hid (show bxErr X Y bw bh = whenI true 3 by unfold bxErr; rw [if_neg (fun h => h1 h.1.1)]; rfl)
    clear h1
    go_enter Try.func72, Try.ntmps72
    go_wp2_with (first | (go_at_call 101; (with_reducible refine (far_yes X (-1048576) _ H1.out).mono ?_); rintro e w' ⟨rfl, rfl⟩) | (go_at_call 102; refine (when_any _ _ _).mono ?_; rintro e w' ⟨rfl, rfl⟩))
    go_ret
    exact ⟨ret_int HE.out.symm, new_below _ _⟩

/-- Four numbers. -/
structure Bx where
  x : Int
  y : Int
  w : Int
  h : Int
def Bx.err (b : Bx) : Int := bxErr b.x b.y b.w b.h
/-- The boxes of a slice, cell by cell. -/
def BoxesAt (w : World) (g o n : Nat) (B : Nat → Bx) : Prop :=
  ∀ i, i < n → (w.cell? ⟨g, o + i * 4, none⟩ = some (.int .i64 (B i).x) ∧ w.cell? ⟨g, o + i * 4 + 1, none⟩ = some (.int .i64 (B i).y)) ∧ (w.cell? ⟨g, o + i * 4 + 2, none⟩ = some (.int .i64 (B i).w) ∧ w.cell? ⟨g, o + i * 4 + 3, none⟩ = some (.int .i64 (B i).h))

theorem BoxesAt.later {w w' : World} {g o n : Nat} {B : Nat → Bx} (h : BoxesAt w g o n B) (hb : Below w.heap.size w w') : BoxesAt w' g o n B := fun i hi =>
  ⟨⟨cell_later hb (h i hi).1.1, cell_later hb (h i hi).1.2⟩, cell_later hb (h i hi).2.1, cell_later hb (h i hi).2.2⟩

/-- The first error of the boxes from k on. -/
def firstErr (B : Nat → Bx) : Nat → Int
  | 0 => 0
  | n + 1 => if firstErr B n = 0 then (B n).err else firstErr B n
/-- The error of a list of boxes. -/
def listErr (B : Nat → Bx) (n : Nat) : Int := if 5000 < n then 4 else firstErr B n

theorem firstErr_later {B : Nat → Bx} {n m : Nat} (h : firstErr B n ≠ 0) (hm : n ≤ m) : firstErr B m = firstErr B n := by
  induction m with
  | zero => rw [show n = 0 by omega]
  | succ m ih =>
    rcases Nat.lt_or_eq_of_le hm with h1 | h1
    · rw [firstErr, ih (by omega), if_neg h]
    · rw [h1]

set_option maxHeartbeats 800000 in
set_option maxRecDepth 100000 in
theorem checkBoxes_any (n g o c : Nat) (B : Nat → Bx) (w : World) (hn : n ≤ 100000) (hB : BoxesAt w g o n B) :
    Calls Try.prog 67 #[.slice (some ⟨g, o, none⟩) n c] w fun e w' => e = .returned (.int .i64 (listErr B n)) ∧ Below w.heap.size w w' := by
  by_cases h5 : 5000 < n
  · have HE := Lib.hid (show listErr B n = 4 by unfold listErr; rw [if_pos h5])
    have i1 : (5000 : Int) < (n : Int) := by omega
    go_enter Try.func67, Try.ntmps67
    go_wp2_with fail
    go_ret
    exact ⟨ret_int HE.out.symm, Below.refl _ _⟩
  · have HE := Lib.hid (show listErr B n = firstErr B n by unfold listErr; rw [if_neg h5])
    have i1 : ¬ (5000 : Int) < (n : Int) := by omega
    have HB := Lib.hid hB
    clear hB h5
    go_enter Try.func67, Try.ntmps67
    go_wp2_with fail
    go_loopw [11] (fun i wr => ∃ k : Nat, k ≤ n ∧ i = .int .i64 k ∧ Hid (firstErr B k = 0 ∧ Below w.heap.size w wr)) (fun i _ => n - (intOf i).toNat)
    case atStart => exact ⟨0, Nat.zero_le _, rfl, Lib.hid ⟨rfl, Below.refl _ _⟩⟩
    case round =>
      obtain ⟨k, hk, rfl, HR⟩ := hrel
      by_cases hlt : k < n
      · obtain ⟨⟨c0, c1⟩, c2, c3⟩ := HB.out.later HR.out.2 k hlt
        have j1 : (k : Int) < (n : Int) := by omega
        obtain ⟨X, hX⟩ : ∃ X, X = (B k).x := ⟨_, rfl⟩
        obtain ⟨Y, hY⟩ : ∃ Y, Y = (B k).y := ⟨_, rfl⟩
        obtain ⟨P, hP⟩ : ∃ P, P = (B k).w := ⟨_, rfl⟩
        obtain ⟨Q, hQ⟩ : ∃ Q, Q = (B k).h := ⟨_, rfl⟩
        rw [← hX] at c0
        rw [← hY] at c1
        rw [← hP] at c2
        rw [← hQ] at c3
        have HK := Lib.hid (show bxErr X Y P Q = (B k).err by rw [hX, hY, hP, hQ]; rfl)
        clear hX hY hP hQ
        go_wp2_with fail
        have B2 := Lib.hid (show Below w.heap.size w (wr.alloc (.cells #[.int .i64 X, .int .i64 Y, .int .i64 P, .int .i64 Q] 92)) from below_alloc HR.out.2 _)
        refine (checkBox_any X Y P Q _).mono ?_
        rintro e w2 ⟨rfl, hb2⟩
        have G := Lib.hid (below_step B2.out hb2)
        clear hb2 c0 c1 c2 c3
        obtain ⟨E, hE⟩ : ∃ E, E = bxErr X Y P Q := ⟨_, rfl⟩
        rw [← hE]
        have HX := Lib.hid (show (B k).err = E by rw [hE]; exact HK.out.symm)
        clear hE
        by_cases h0 : E = 0
        · have t1 : (E != 0) = false := by simpa using h0
          have hz : firstErr B (k + 1) = 0 := by rw [firstErr, if_pos HR.out.1, HX.out]; exact h0
          have HZ := Lib.hid hz
          clear h0 hz
          go_wp2_with fail
          go_roundw
          case rel => exact ⟨k + 1, by omega, by go_num, Lib.hid ⟨HZ.out, G.out⟩⟩
          case measure => simp [intOf]; omega
        · have t1 : (E != 0) = true := by simpa using h0
          have hz : firstErr B n = E := by
            have h1 : firstErr B (k + 1) = E := by rw [firstErr, if_pos HR.out.1, HX.out]
            rw [firstErr_later (by rw [h1]; exact h0) (show k + 1 ≤ n by omega), h1]
          have HZ := Lib.hid hz
          clear h0 hz
          go_wp2_with fail
          go_ret
          exact ⟨ret_int (by rw [HE.out, HZ.out]), G.out⟩
      · obtain rfl : k = n := by omega
        go_wp2_with fail
        go_ret
        exact ⟨ret_int (by rw [HE.out, HR.out.1]), HR.out.2⟩

set_option maxHeartbeats 800000 in
set_option maxRecDepth 100000 in
theorem boxesErrR_any (n g o c : Nat) (B : Nat → Bx) (w : World) (hn : n ≤ 100000) (hB : BoxesAt w g o n B) :
    Calls Try.prog 48 #[.slice (some ⟨g, o, none⟩) n c] w fun e w' => e = .returned (.int .i64 (listErr B n)) ∧ Below w.heap.size w w' := by
  by_cases h5 : 5000 < n
  · have HE := Lib.hid (show listErr B n = 4 by unfold listErr; rw [if_pos h5])
    have i1 : (5000 : Int) < (n : Int) := by omega
    go_enter Try.func48, Try.ntmps48
    go_wp2_with fail
    go_ret
    exact ⟨ret_int HE.out.symm, Below.refl _ _⟩
  · have HE := Lib.hid (show listErr B n = firstErr B n by unfold listErr; rw [if_neg h5])
    have i1 : ¬ (5000 : Int) < (n : Int) := by omega
    have HB := Lib.hid hB
    clear hB h5
    go_enter Try.func48, Try.ntmps48
    go_wp2_with fail
    go_loopw [11] (fun i wr => ∃ k : Nat, k ≤ n ∧ i = .int .i64 k ∧ Hid (firstErr B k = 0 ∧ Below w.heap.size w wr)) (fun i _ => n - (intOf i).toNat)
    case atStart => exact ⟨0, Nat.zero_le _, rfl, Lib.hid ⟨rfl, Below.refl _ _⟩⟩
    case round =>
      obtain ⟨k, hk, rfl, HR⟩ := hrel
      by_cases hlt : k < n
      · obtain ⟨⟨c0, c1⟩, c2, c3⟩ := HB.out.later HR.out.2 k hlt
        have j1 : (k : Int) < (n : Int) := by omega
        obtain ⟨X, hX⟩ : ∃ X, X = (B k).x := ⟨_, rfl⟩
        obtain ⟨Y, hY⟩ : ∃ Y, Y = (B k).y := ⟨_, rfl⟩
        obtain ⟨P, hP⟩ : ∃ P, P = (B k).w := ⟨_, rfl⟩
        obtain ⟨Q, hQ⟩ : ∃ Q, Q = (B k).h := ⟨_, rfl⟩
        rw [← hX] at c0
        rw [← hY] at c1
        rw [← hP] at c2
        rw [← hQ] at c3
        have HK := Lib.hid (show bxErr X Y P Q = (B k).err by rw [hX, hY, hP, hQ]; rfl)
        clear hX hY hP hQ
        go_wp2_with fail
        have B2 := Lib.hid (show Below w.heap.size w (wr.alloc (.cells #[.int .i64 X, .int .i64 Y, .int .i64 P, .int .i64 Q] 92)) from below_alloc HR.out.2 _)
        refine (boxErrR_any X Y P Q _).mono ?_
        rintro e w2 ⟨rfl, hb2⟩
        have G := Lib.hid (below_step B2.out hb2)
        clear hb2 c0 c1 c2 c3
        obtain ⟨E, hE⟩ : ∃ E, E = bxErr X Y P Q := ⟨_, rfl⟩
        rw [← hE]
        have HX := Lib.hid (show (B k).err = E by rw [hE]; exact HK.out.symm)
        clear hE
        by_cases h0 : E = 0
        · have t1 : (E != 0) = false := by simpa using h0
          have hz : firstErr B (k + 1) = 0 := by rw [firstErr, if_pos HR.out.1, HX.out]; exact h0
          have HZ := Lib.hid hz
          clear h0 hz
          go_wp2_with fail
          go_roundw
          case rel => exact ⟨k + 1, by omega, by go_num, Lib.hid ⟨HZ.out, G.out⟩⟩
          case measure => simp [intOf]; omega
        · have t1 : (E != 0) = true := by simpa using h0
          have hz : firstErr B n = E := by
            have h1 : firstErr B (k + 1) = E := by rw [firstErr, if_pos HR.out.1, HX.out]
            rw [firstErr_later (by rw [h1]; exact h0) (show k + 1 ≤ n by omega), h1]
          have HZ := Lib.hid hz
          clear h0 hz
          go_wp2_with fail
          go_ret
          exact ⟨ret_int (by rw [HE.out, HZ.out]), G.out⟩
      · obtain rfl : k = n := by omega
        go_wp2_with fail
        go_ret
        exact ⟨ret_int (by rw [HE.out, HR.out.1]), HR.out.2⟩

end Go.Proofs.Ytmoplmjfnjgcaaa
namespace Go.Proofs.Ytmoplmjfnjgcaaa
open Go.RowKit
set_option linter.unusedSimpArgs false
set_option linter.unusedVariables false

def Bx.OK (b : Bx) : Prop := BxOK b.x b.y b.w b.h
end Go.Proofs.Ytmoplmjfnjgcaaa
namespace Go.Proofs.Ytmoplmjfnjgcaaa
open Go.RowKit
set_option linter.unusedSimpArgs false
set_option linter.unusedVariables false

/-- From where to where the boxes up to k reach, the first one too. -/
def hullX (B : Nat → Bx) : Nat → Int × Int
  | 0 => ((B 0).x, (B 0).x + (B 0).w)
  | k + 1 => (min (hullX B k).1 (B k).x, max (hullX B k).2 ((B k).x + (B k).w))
def hullY (B : Nat → Bx) : Nat → Int × Int
  | 0 => ((B 0).y, (B 0).y + (B 0).h)
  | k + 1 => (min (hullY B k).1 (B k).y, max (hullY B k).2 ((B k).y + (B k).h))

theorem hullX_ok {B : Nat → Bx} {n : Nat} (hn : 1 ≤ n) (h : ∀ i, i < n → (B i).OK) (k : Nat) (hk : k ≤ n) : (-1048576 ≤ (hullX B k).1 ∧ (hullX B k).1 ≤ 1048576) ∧ (hullX B k).1 < (hullX B k).2 ∧ (hullX B k).2 ≤ 2097152 := by
  induction k with
  | zero => have := h 0 (by omega); unfold Bx.OK BxOK at this; simp only [hullX]; omega
  | succ k ih =>
    have h1 := ih (by omega)
    have h2 := h k (by omega)
    unfold Bx.OK BxOK at h2
    simp only [hullX]
    omega
theorem hullY_ok {B : Nat → Bx} {n : Nat} (hn : 1 ≤ n) (h : ∀ i, i < n → (B i).OK) (k : Nat) (hk : k ≤ n) : (-1048576 ≤ (hullY B k).1 ∧ (hullY B k).1 ≤ 1048576) ∧ (hullY B k).1 < (hullY B k).2 ∧ (hullY B k).2 ≤ 2097152 := by
  induction k with
  | zero => have := h 0 (by omega); unfold Bx.OK BxOK at this; simp only [hullY]; omega
  | succ k ih =>
    have h1 := ih (by omega)
    have h2 := h k (by omega)
    unfold Bx.OK BxOK at h2
    simp only [hullY]
    omega

theorem over_any (a b c d : Int) (w : World) : Calls Try.prog 70 #[.agg #[.int .i64 a, .int .i64 b], .agg #[.int .i64 c, .int .i64 d]] w fun e w' => e = .returned (.agg #[.int .i64 (min a c), .int .i64 (max b d)]) ∧ Below w.heap.size w w' := by
  go_enter Try.func70, Try.ntmps70
  go_wp2_with fail
  exact bodyPost_ret (v := .agg #[.int .i64 (min a c), .int .i64 (max b d)]) (by simp [results, Try.results70, go_sem]) rfl ⟨rfl, by first | exact below_two (below_alloc (below_alloc (new_below _ _) _) _) (by simp) | exact below_alloc (below_alloc (new_below _ _) _) _⟩

end Go.Proofs.Ytmoplmjfnjgcaaa
namespace Go.Proofs.Ytmoplmjfnjgcaaa
open Go.RowKit
set_option linter.unusedSimpArgs false
set_option linter.unusedVariables false

def smB (c : Int) : Bool := decide (97 ≤ c ∧ c ≤ 122)
def dgB (c : Int) : Bool := decide (48 ≤ c ∧ c ≤ 57)

theorem isSmall_any (c : Int) (w : World) : Calls Try.prog 49 #[.int .u8 c] w fun e w' => e = .returned (.bool (smB c)) ∧ w = w' := by
  by_cases h1 : 97 ≤ c
  · by_cases h2 : c ≤ 122
    · have H := Lib.hid (show smB c = true from decide_eq_true ⟨h1, h2⟩)
      go_enter Try.func49, Try.ntmps49
      go_wp2
      go_ret
      exact ⟨ret_bool H.out.symm, rfl⟩
    · have H := Lib.hid (show smB c = false from decide_eq_false (fun k => h2 k.2))
      go_enter Try.func49, Try.ntmps49
      go_wp2
      go_ret
      exact ⟨ret_bool H.out.symm, rfl⟩
  · have H := Lib.hid (show smB c = false from decide_eq_false (fun k => h1 k.1))
    go_enter Try.func49, Try.ntmps49
    go_wp2
    go_ret
    exact ⟨ret_bool H.out.symm, rfl⟩

theorem isDigit_any (c : Int) (w : World) : Calls Try.prog 50 #[.int .u8 c] w fun e w' => e = .returned (.bool (dgB c)) ∧ w = w' := by
  by_cases h1 : 48 ≤ c
  · by_cases h2 : c ≤ 57
    · have H := Lib.hid (show dgB c = true from decide_eq_true ⟨h1, h2⟩)
      go_enter Try.func50, Try.ntmps50
      go_wp2
      go_ret
      exact ⟨ret_bool H.out.symm, rfl⟩
    · have H := Lib.hid (show dgB c = false from decide_eq_false (fun k => h2 k.2))
      go_enter Try.func50, Try.ntmps50
      go_wp2
      go_ret
      exact ⟨ret_bool H.out.symm, rfl⟩
  · have H := Lib.hid (show dgB c = false from decide_eq_false (fun k => h1 k.1))
    go_enter Try.func50, Try.ntmps50
    go_wp2
    go_ret
    exact ⟨ret_bool H.out.symm, rfl⟩

/-- The byte at a place, as a number. -/
def byteAt (s : ByteArray) (k : Nat) : Int := ((s.data.toList.getD k 0).toNat : Int)
theorem byteAt_get (s : ByteArray) (k : Nat) (h : k < s.size) : (s[k].toNat : Int) = byteAt s k := by
  unfold byteAt
  rw [List.getD_eq_getElem?_getD, List.getElem?_eq_getElem (by simpa using h)]
  rfl

def goodB (s : ByteArray) (k : Nat) : Bool := smB (byteAt s k) || (decide (k ≠ 0) && (dgB (byteAt s k) || decide (byteAt s k = 45)))
def NameP (s : ByteArray) : Prop := (1 ≤ s.size ∧ s.size ≤ 40) ∧ ∀ k, k < s.size → goodB s k = true

/-- It returns a bool that says whether P. -/
def SaysIf (P : Prop) (w : World) (e : Ending) (w' : World) : Prop := ∃ q, e = .returned (.bool q) ∧ (q = true ↔ P) ∧ w = w'
theorem says_no {P : Prop} {w : World} (h : ¬ P) : SaysIf P w (.returned (.bool false)) w := ⟨false, rfl, by simp [h], rfl⟩
theorem says_yes {P : Prop} {w : World} (h : P) : SaysIf P w (.returned (.bool true)) w := ⟨true, rfl, by simp [h], rfl⟩

theorem good_next {s : ByteArray} {k : Nat} (h : Hid (∀ j, j < k → goodB s j = true)) (hk : Hid (goodB s k = true)) : Hid (∀ j, j < k + 1 → goodB s j = true) :=
  Lib.hid fun j hj => by
    by_cases e : j = k
    · rw [e]; exact hk.out
    · exact h.out j (by omega)

set_option maxHeartbeats 400000 in
theorem isName_any (s : ByteArray) (w : World) (hs : s.size ≤ 9223372036854775807) : Calls Try.prog 27 #[.string s] w (SaysIf (NameP s) w) := by
  by_cases h1 : 1 ≤ s.size
  · by_cases h2 : s.size ≤ 40
    · have d1 : decide ((s.size : Int) < 1) = false := by simp; omega
      have d2 : decide ((40 : Int) < (s.size : Int)) = false := by simp; omega
      have hlt0 : 0 < s.size := by omega
      have E0 := Lib.hid (byteAt_get s 0 hlt0)
      by_cases hb : smB (s[0].toNat : Int) = true
      · have HB := Lib.hid (show smB (byteAt s 0) = true by rw [← E0.out]; exact hb)
        have H1 := Lib.hid h1
        have H2 := Lib.hid h2
        clear h1 h2
        go_enter Try.func27, Try.ntmps27
        go_wp2_with (first | (go_at_call 49; refine (isSmall_any _ _).mono ?_; rintro e w' ⟨rfl, rfl⟩) | (go_at_call 50; refine (isDigit_any _ _).mono ?_; rintro e w' ⟨rfl, rfl⟩))
        clear hb
        go_loop [21] (fun i => ∃ k : Nat, k ≤ s.size ∧ i = .int .i64 k ∧ Hid (∀ j, j < k → goodB s j = true)) (fun i => s.size - (intOf i).toNat)
        case atStart => exact ⟨0, Nat.zero_le _, rfl, fun j hj => by omega⟩
        case round =>
          obtain ⟨k, hk, rfl, hG⟩ := hrel
          by_cases hlt : k < s.size
          · have E := Lib.hid (byteAt_get s k hlt)
            by_cases a1 : smB (s[k].toNat : Int) = true
            · have hg := Lib.hid (show goodB s k = true by unfold goodB; rw [← E.out, a1]; rfl)
              go_wp2_with (first | (go_at_call 49; refine (isSmall_any _ _).mono ?_; rintro e w' ⟨rfl, rfl⟩) | (go_at_call 50; refine (isDigit_any _ _).mono ?_; rintro e w' ⟨rfl, rfl⟩))
              go_round
              case rel => exact ⟨k + 1, by omega, by go_num, good_next hG hg⟩
              case measure => simp [intOf]; omega
            · have a1' : smB (s[k].toNat : Int) = false := by simpa using a1
              have K0 := Lib.hid (show k ≠ 0 from fun e => a1 (by subst e; rw [E.out]; exact HB.out))
              clear a1
              by_cases a2 : dgB (s[k].toNat : Int) = true
              · have hg := Lib.hid (show goodB s k = true by unfold goodB; rw [← E.out, a1', a2]; simp [K0.out])
                go_wp2_with (first | (go_at_call 49; refine (isSmall_any _ _).mono ?_; rintro e w' ⟨rfl, rfl⟩) | (go_at_call 50; refine (isDigit_any _ _).mono ?_; rintro e w' ⟨rfl, rfl⟩))
                go_round
                case rel => exact ⟨k + 1, by omega, by go_num, good_next hG hg⟩
                case measure => simp [intOf]; omega
              · have a2' : dgB (s[k].toNat : Int) = false := by simpa using a2
                clear a2
                by_cases a3 : (s[k].toNat : Int) = 45
                · have a3' : ((s[k].toNat : Int) != 45) = false := by simpa using a3
                  have hg := Lib.hid (show goodB s k = true by unfold goodB; rw [← E.out, a1', a2']; simp [K0.out]; omega)
                  clear a3
                  go_wp2_with (first | (go_at_call 49; refine (isSmall_any _ _).mono ?_; rintro e w' ⟨rfl, rfl⟩) | (go_at_call 50; refine (isDigit_any _ _).mono ?_; rintro e w' ⟨rfl, rfl⟩))
                  go_round
                  case rel => exact ⟨k + 1, by omega, by go_num, good_next hG hg⟩
                  case measure => simp [intOf]; omega
                · have a3' : ((s[k].toNat : Int) != 45) = true := by simpa using a3
                  have hg := Lib.hid (show goodB s k = false by unfold goodB; rw [← E.out, a1', a2']; simp; omega)
                  clear a3
                  go_wp2_with (first | (go_at_call 49; refine (isSmall_any _ _).mono ?_; rintro e w' ⟨rfl, rfl⟩) | (go_at_call 50; refine (isDigit_any _ _).mono ?_; rintro e w' ⟨rfl, rfl⟩))
                  go_ret
                  exact says_no (fun hP => by have := hP.2 k hlt; rw [hg.out] at this; cases this)
          · go_wp2_with (first | (go_at_call 49; refine (isSmall_any _ _).mono ?_; rintro e w' ⟨rfl, rfl⟩) | (go_at_call 50; refine (isDigit_any _ _).mono ?_; rintro e w' ⟨rfl, rfl⟩))
            go_ret
            exact says_yes ⟨⟨H1.out, H2.out⟩, fun j hj => hG.out j (by omega)⟩
      · have hb' : smB (s[0].toNat : Int) = false := by simpa using hb
        have HB := Lib.hid (show goodB s 0 = false by unfold goodB; rw [← E0.out, hb']; rfl)
        clear hb
        go_enter Try.func27, Try.ntmps27
        go_wp2_with (first | (go_at_call 49; refine (isSmall_any _ _).mono ?_; rintro e w' ⟨rfl, rfl⟩) | (go_at_call 50; refine (isDigit_any _ _).mono ?_; rintro e w' ⟨rfl, rfl⟩))
        go_ret
        exact says_no (fun hP => by have := hP.2 0 hlt0; rw [HB.out] at this; cases this)
    · go_enter Try.func27, Try.ntmps27
      go_wp2_with (first | (go_at_call 49; refine (isSmall_any _ _).mono ?_; rintro e w' ⟨rfl, rfl⟩) | (go_at_call 50; refine (isDigit_any _ _).mono ?_; rintro e w' ⟨rfl, rfl⟩))
      go_ret
      exact says_no (fun hP => by have := hP.1; omega)
  · go_enter Try.func27, Try.ntmps27
    go_wp2_with (first | (go_at_call 49; refine (isSmall_any _ _).mono ?_; rintro e w' ⟨rfl, rfl⟩) | (go_at_call 50; refine (isDigit_any _ _).mono ?_; rintro e w' ⟨rfl, rfl⟩))
    go_ret
    exact says_no (fun hP => by have := hP.1; omega)

end Go.Proofs.Ytmoplmjfnjgcaaa
namespace Go.Proofs.Ytmoplmjfnjgcaaa
open Go.RowKit
set_option linter.unusedSimpArgs false
set_option linter.unusedVariables false

theorem landed_any (w : World) : Calls Try.prog 6 #[] w fun e w' => e = .returned (.bool true) ∧ w = w' := by
  go_enter Try.func6, Try.ntmps6
  go_wp2_with fail
  refine (isName_any _ _ (by decide)).mono ?_
  rintro e w1 ⟨b, rfl, hb, rfl⟩
  have hn : NameP ⟨#[97]⟩ := ⟨⟨by decide, by decide⟩, fun k hk => by
    obtain rfl : k = 0 := by have : (ByteArray.mk #[97]).size = 1 := rfl; omega
    decide⟩
  obtain rfl : b = true := hb.2 hn
  go_wp2_with fail
  go_ret
  exact ⟨rfl, rfl⟩

end Go.Proofs.Ytmoplmjfnjgcaaa
namespace Go.Proofs.Ytmoplmjfnjgcaaa
open Go.RowKit
set_option linter.unusedSimpArgs false
set_option linter.unusedVariables false

/-- Two blocks of a world may have changed, and no other. -/
structure Kept (cb nb : Nat) (w w' : World) : Prop where
  os : w'.os = w.os
  tape : w'.tape = w.tape
  output : w'.output = w.output
  size : w'.heap.size = w.heap.size
  block : ∀ b, b ≠ cb → b ≠ nb → w'.heap[b]? = w.heap[b]?
theorem Kept.refl (cb nb : Nat) (w : World) : Kept cb nb w w := ⟨rfl, rfl, rfl, rfl, fun _ _ _ => rfl⟩
theorem Kept.trans {cb nb : Nat} {w a b : World} (h : Kept cb nb w a) (k : Kept cb nb a b) : Kept cb nb w b :=
  ⟨k.os.trans h.os, k.tape.trans h.tape, k.output.trans h.output, k.size.trans h.size, fun i h1 h2 => (k.block i h1 h2).trans (h.block i h1 h2)⟩
theorem setCell_else (w : World) (a : Addr) (v : Value) (b : Nat) (h : b ≠ a.block) : (w.setCell a v).heap[b]? = w.heap[b]? := by
  unfold World.setCell
  split <;> simp [Array.getElem?_modify, Ne.symm h]
theorem Kept.set {cb nb : Nat} {w a : World} (h : Kept cb nb w a) (p : Addr) (hp : p.block = cb ∨ p.block = nb) (v : Value) : Kept cb nb w (a.setCell p v) := by
  have hb : Below 0 a (a.setCell p v) := (Below.refl _ _).setCell (Nat.zero_le _) _
  refine ⟨hb.os.trans h.os, hb.tape.trans h.tape, hb.output.trans h.output, ?_, fun b h1 h2 => ?_⟩
  · rw [World.size_setCell]; exact h.size
  · rw [setCell_else _ _ _ _ (by rcases hp with e | e <;> rw [e] <;> assumption)]
    exact h.block b h1 h2
theorem Kept.cell {cb nb : Nat} {w a : World} (h : Kept cb nb w a) {b o : Nat} (hb : b ≠ cb ∧ b ≠ nb) {v : Value} (hc : w.cell? ⟨b, o, none⟩ = some v) : a.cell? ⟨b, o, none⟩ = some v := by
  rw [← hc]; simp only [World.cell?, h.block b hb.1 hb.2]
theorem Kept.below {cb nb B : Nat} {w a : World} (h : Kept cb nb w a) (h1 : B ≤ cb) (h2 : B ≤ nb) : Below B w a :=
  ⟨h.os, h.tape, h.output, Nat.le_of_eq h.size.symm, fun k hk => h.block k (by omega) (by omega)⟩

/-- The counts of the values, and of all. -/
def CountSt (cb nb : Nat) (S : Nat → Int) (n : Int) (w : World) : Prop :=
  (∃ arr t, w.heap[cb]? = some (.cells arr t (0, 0)) ∧ t ≠ 5 ∧ arr.size = 256 ∧ ∀ u, u < 256 → arr[u]? = some (.int .i64 (S u))) ∧ w.heap[nb]? = some (.cells #[.int .i64 n] 3 (0, 0))

theorem heap_set {w : World} {b o : Nat} {arr : Array Value} {t : TypeId} {fr : Nat × Nat} {v : Value} (h : w.heap[b]? = some (.cells arr t fr)) : (w.setCell ⟨b, o, none⟩ v).heap[b]? = some (.cells (arr.setIfInBounds o v) t fr) := by
  simp [World.setCell, Array.getElem?_modify, h]

theorem CountSt.all {cb nb : Nat} {S : Nat → Int} {n : Int} {w : World} (h : CountSt cb nb S n w) : w.cell? ⟨nb, 0, none⟩ = some (.int .i64 n) ∧ w.frozen? ⟨nb, 0, none⟩ = false := by
  obtain ⟨_, h1⟩ := h
  exact ⟨by simp [World.cell?, h1], by simp [World.frozen?, h1]⟩
theorem CountSt.congr {cb nb : Nat} {S S' : Nat → Int} {n : Int} {w : World} (h : CountSt cb nb S n w) (hS : ∀ u, u < 256 → S u = S' u) : CountSt cb nb S' n w := by
  obtain ⟨⟨arr, t, h1, h2, h3, h4⟩, h5⟩ := h
  exact ⟨⟨arr, t, h1, h2, h3, fun u hu => by rw [← hS u hu]; exact h4 u hu⟩, h5⟩

end Go.Proofs.Ytmoplmjfnjgcaaa
namespace Go.Proofs.Ytmoplmjfnjgcaaa
open Go.RowKit
set_option linter.unusedSimpArgs false
set_option linter.unusedVariables false

/-- What stays while a row is made. -/
structure MidFr (gb tb db base : Nat) (w : World) (og ot od : Obj) (wr : World) : Prop where
  g : wr.heap[gb]? = some og
  t : wr.heap[tb]? = some ot
  d : wr.heap[db]? = some od
  b : Below base w wr
theorem MidFr.kept {gb tb db base cb nb : Nat} {w wr w' : World} {og ot od : Obj} (h : MidFr gb tb db base w og ot od wr) (k : Kept cb nb wr w') (hg : gb ≠ cb ∧ gb ≠ nb) (ht : tb ≠ cb ∧ tb ≠ nb) (hd : db ≠ cb ∧ db ≠ nb) (h1 : base ≤ cb) (h2 : base ≤ nb) : MidFr gb tb db base w og ot od w' :=
  ⟨(k.block _ hg.1 hg.2).trans h.g, (k.block _ ht.1 ht.2).trans h.t, (k.block _ hd.1 hd.2).trans h.d, h.b.trans (k.below h1 h2)⟩
theorem MidFr.grown {gb tb db base : Nat} {w wr w' : World} {og ot od : Obj} {row : Option Nat} (h : MidFr gb tb db base w og ot od wr) (k : wr.grownBy w' row) (hg : row ≠ some gb) (ht : row ≠ some tb) (hd : row ≠ some db) (hb : base ≤ wr.heap.size) (hr : ∀ i, row = some i → base ≤ i) : MidFr gb tb db base w og ot od w' :=
  ⟨grown_block k h.g (Ne.symm hg), grown_block k h.t (Ne.symm ht), grown_block k h.d (Ne.symm hd), h.b.grown k hb hr⟩
theorem CountSt.grown {cb nb : Nat} {S : Nat → Int} {n : Int} {w w' : World} {row : Option Nat} (h : CountSt cb nb S n w) (k : w.grownBy w' row) (h1 : row ≠ some cb) (h2 : row ≠ some nb) : CountSt cb nb S n w' := by
  obtain ⟨⟨arr, t, g1, g2, g3, g4⟩, g5⟩ := h
  exact ⟨⟨arr, t, grown_block k g1 (Ne.symm h1), g2, g3, g4⟩, grown_block k g5 (Ne.symm h2)⟩
end Go.Proofs.Ytmoplmjfnjgcaaa
namespace Go.Proofs.Ytmoplmjfnjgcaaa
open Go.RowKit
set_option linter.unusedSimpArgs false
set_option linter.unusedVariables false

theorem Kept.drew {cb nb : Nat} {w a : World} (h : Kept cb nb w a) : Kept cb nb w a.drew := ⟨h.os, h.tape, h.output, h.size, h.block⟩
end Go.Proofs.Ytmoplmjfnjgcaaa
namespace Go.Proofs.Ytmoplmjfnjgcaaa
open Go.RowKit
set_option linter.unusedSimpArgs false
set_option linter.unusedVariables false

/-- The two numbers that are kept. -/
def TwoB (fb gb : Nat) (p : Int × Int) (w : World) : Prop := w.heap[fb]? = some (.cells #[.int .i64 p.1] 3 (0, 0)) ∧ w.heap[gb]? = some (.cells #[.int .i64 p.2] 3 (0, 0))
theorem TwoB.later {fb gb : Nat} {p : Int × Int} {w w' : World} (h : TwoB fb gb p w) (hb : Below w.heap.size w w') : TwoB fb gb p w' := ⟨below_block hb h.1, below_block hb h.2⟩
theorem TwoB.set {fb gb : Nat} {p : Int × Int} {w : World} (h : TwoB fb gb p w) (hne : fb ≠ gb) (x y : Int) : TwoB fb gb (x, y) ((w.setCell ⟨fb, 0, none⟩ (.int .i64 x)).setCell ⟨gb, 0, none⟩ (.int .i64 y)) := by
  constructor
  · rw [setCell_else _ _ _ _ (by simpa using hne), heap_set h.1]; simp
  · have : (w.setCell ⟨fb, 0, none⟩ (.int .i64 x)).heap[gb]? = some (.cells #[.int .i64 p.2] 3 (0, 0)) := by
      rw [setCell_else _ _ _ _ (by simpa using hne.symm)]; exact h.2
    rw [heap_set this]; simp

end Go.Proofs.Ytmoplmjfnjgcaaa
namespace Go.Proofs.Ytmoplmjfnjgcaaa
open Go.RowKit
set_option linter.unusedSimpArgs false
set_option linter.unusedVariables false

/-- The mean of the pixels of a square of two by two from (2x, 2y) on, as far as they are there. -/
def mean4 (P : Nat → Int) (W H x y : Nat) : Int :=
  (2 * rectSum P W (2 * y) (2 * x) (min (2 * x + 2) W - 2 * x) (min (2 * y + 2) H - 2 * y) + (((min (2 * x + 2) W - 2 * x) * (min (2 * y + 2) H - 2 * y) : Nat) : Int)) / (2 * (((min (2 * x + 2) W - 2 * x) * (min (2 * y + 2) H - 2 * y) : Nat) : Int))

end Go.Proofs.Ytmoplmjfnjgcaaa
namespace Go.Proofs.Ytmoplmjfnjgcaaa
open Go.RowKit
set_option linter.unusedSimpArgs false
set_option linter.unusedVariables false

/-- The place (a, b) lies in the other page. -/
def InC (Wc Hc : Nat) (x y : Int) (a b : Nat) : Prop := (0 ≤ (a : Int) - x ∧ (a : Int) - x < Wc) ∧ (0 ≤ (b : Int) - y ∧ (b : Int) - y < Hc)
instance (Wc Hc : Nat) (x y : Int) (a b : Nat) : Decidable (InC Wc Hc x y a b) := by unfold InC; infer_instance

/-- A place of the page with the other one pasted. -/
def pasteAt (W Wc Hc : Nat) (x y : Int) (z1 z2 : Nat → Bool) (a b : Nat) : Bool :=
  z1 (b * W + a) || (decide (InC Wc Hc x y a b) && z2 (((b : Int) - y).toNat * Wc + ((a : Int) - x).toNat))

end Go.Proofs.Ytmoplmjfnjgcaaa
namespace Go.Proofs.Ytmoplmjfnjgcaaa
open Go.RowKit
set_option linter.unusedSimpArgs false
set_option linter.unusedVariables false

/-- What a halved page is, in memory: nothing with an error; else the means. -/
def HalveIs (a b : Int) (n : Nat) (z : Nat → Int) (B : Nat) (w : World) (i j : Int) (sl : Option Addr) (n' c' : Nat) : Prop :=
  (pageErr a b n ≠ 0 ∧ i = 0 ∧ j = 0 ∧ sl = none ∧ n' = 0 ∧ c' = 0) ∨
  (pageErr a b n = 0 ∧ i = (((a.toNat + 1) / 2 : Nat) : Int) ∧ j = (((b.toNat + 1) / 2 : Nat) : Int) ∧ n' = (a.toNat + 1) / 2 * ((b.toNat + 1) / 2) ∧ ∃ g, B ≤ g ∧ sl = some ⟨g, 0, none⟩ ∧ ∀ k, k < n' → w.cell? ⟨g, 0 + k, none⟩ = some (.int .u8 (mean4 z a.toNat b.toNat (k % ((a.toNat + 1) / 2)) (k / ((a.toNat + 1) / 2)))))

theorem HalveIs.later {a b : Int} {n : Nat} {z : Nat → Int} {B : Nat} {w w' : World} {i j : Int} {sl : Option Addr} {n' c' : Nat} (h : HalveIs a b n z B w i j sl n' c') (hb : Below w.heap.size w w') : HalveIs a b n z B w' i j sl n' c' := by
  rcases h with h | ⟨h1, h2, h3, h4, g, h5, h6, h7⟩
  · exact .inl h
  · exact .inr ⟨h1, h2, h3, h4, g, h5, h6, fun k hk => cell_later hb (h7 k hk)⟩

/-- The error of pasting. -/
def pasteErr (a1 b1 : Int) (n1 : Nat) (a2 b2 : Int) (n2 : Nat) : Int := orI (pageErr a1 b1 n1) (pageErr a2 b2 n2)

/-- What a pasted page is, in memory. -/
def PasteIs (a1 b1 : Int) (n1 : Nat) (a2 b2 : Int) (n2 : Nat) (x y : Int) (z1 z2 : Nat → Bool) (B : Nat) (w : World) (i j : Int) (sl : Option Addr) (n' c' : Nat) : Prop :=
  (pasteErr a1 b1 n1 a2 b2 n2 ≠ 0 ∧ i = 0 ∧ j = 0 ∧ sl = none ∧ n' = 0 ∧ c' = 0) ∨
  (pasteErr a1 b1 n1 a2 b2 n2 = 0 ∧ i = a1 ∧ j = b1 ∧ n' = n1 ∧ ∃ g, B ≤ g ∧ sl = some ⟨g, 0, none⟩ ∧ ∀ k, k < n' → w.cell? ⟨g, 0 + k, none⟩ = some (.bool (pasteAt a1.toNat a2.toNat b2.toNat x y z1 z2 (k % a1.toNat) (k / a1.toNat))))

theorem PasteIs.later {a1 b1 : Int} {n1 : Nat} {a2 b2 : Int} {n2 : Nat} {x y : Int} {z1 z2 : Nat → Bool} {B : Nat} {w w' : World} {i j : Int} {sl : Option Addr} {n' c' : Nat} (h : PasteIs a1 b1 n1 a2 b2 n2 x y z1 z2 B w i j sl n' c') (hb : Below w.heap.size w w') : PasteIs a1 b1 n1 a2 b2 n2 x y z1 z2 B w' i j sl n' c' := by
  rcases h with h | ⟨h1, h2, h3, h4, g, h5, h6, h7⟩
  · exact .inl h
  · exact .inr ⟨h1, h2, h3, h4, g, h5, h6, fun k hk => cell_later hb (h7 k hk)⟩

end Go.Proofs.Ytmoplmjfnjgcaaa
namespace Go.Proofs.Ytmoplmjfnjgcaaa
open Go.RowKit
set_option linter.unusedSimpArgs false
set_option linter.unusedVariables false

/-- What a page is that was made by places, in memory: nothing with an error; else its places. -/
def PageIs (E : Int) (a b : Int) (f : Nat → Nat → Bool) (B : Nat) (w : World) (i j : Int) (sl : Option Addr) (n' c' : Nat) : Prop :=
  (E ≠ 0 ∧ i = 0 ∧ j = 0 ∧ sl = none ∧ n' = 0 ∧ c' = 0) ∨
  (E = 0 ∧ i = a ∧ j = b ∧ n' = a.toNat * b.toNat ∧ ∃ g, B ≤ g ∧ sl = some ⟨g, 0, none⟩ ∧ ∀ k, k < n' → w.cell? ⟨g, 0 + k, none⟩ = some (.bool (f (k % a.toNat) (k / a.toNat))))

theorem PageIs.later {E a b : Int} {f : Nat → Nat → Bool} {B : Nat} {w w' : World} {i j : Int} {sl : Option Addr} {n' c' : Nat} (h : PageIs E a b f B w i j sl n' c') (hb : Below w.heap.size w w') : PageIs E a b f B w' i j sl n' c' := by
  rcases h with h | ⟨h1, h2, h3, h4, g, h5, h6, h7⟩
  · exact .inl h
  · exact .inr ⟨h1, h2, h3, h4, g, h5, h6, fun k hk => cell_later hb (h7 k hk)⟩
end Go.Proofs.Ytmoplmjfnjgcaaa
namespace Go.Proofs.Ytmoplmjfnjgcaaa
open Go.RowKit
set_option linter.unusedSimpArgs false
set_option linter.unusedVariables false

/-- What a page is that was made by places, in memory: nothing with an error; else its places. -/
def PageIsY (E : Int) (a b : Int) (f : Nat → Nat → Int) (B : Nat) (w : World) (i j : Int) (sl : Option Addr) (n' c' : Nat) : Prop :=
  (E ≠ 0 ∧ i = 0 ∧ j = 0 ∧ sl = none ∧ n' = 0 ∧ c' = 0) ∨
  (E = 0 ∧ i = a ∧ j = b ∧ n' = a.toNat * b.toNat ∧ ∃ g, B ≤ g ∧ sl = some ⟨g, 0, none⟩ ∧ ∀ k, k < n' → w.cell? ⟨g, 0 + k, none⟩ = some (.int .u8 (f (k % a.toNat) (k / a.toNat))))

theorem PageIsY.later {E a b : Int} {f : Nat → Nat → Int} {B : Nat} {w w' : World} {i j : Int} {sl : Option Addr} {n' c' : Nat} (h : PageIsY E a b f B w i j sl n' c') (hb : Below w.heap.size w w') : PageIsY E a b f B w' i j sl n' c' := by
  rcases h with h | ⟨h1, h2, h3, h4, g, h5, h6, h7⟩
  · exact .inl h
  · exact .inr ⟨h1, h2, h3, h4, g, h5, h6, fun k hk => cell_later hb (h7 k hk)⟩
end Go.Proofs.Ytmoplmjfnjgcaaa
namespace Go.Proofs.Ytmoplmjfnjgcaaa
open Go.RowKit
set_option linter.unusedSimpArgs false
set_option linter.unusedVariables false

theorem below_far4 {w a : World} {B b : Nat} {x y z u : Value} (h : Below B w a) (hb : B ≤ b) : Below B w ((((a.setCell ⟨b, 0, none⟩ x).setCell ⟨b, 1, none⟩ y).setCell ⟨b, 2, none⟩ z).setCell ⟨b, 3, none⟩ u) :=
  (((h.setCell hb _).setCell hb _).setCell hb _).setCell hb _

end Go.Proofs.Ytmoplmjfnjgcaaa
namespace Go.Proofs.Ytmoplmjfnjgcaaa
open Go.RowKit
set_option linter.unusedSimpArgs false
set_option linter.unusedVariables false

/-- The counts of dark pixels, as they grow. -/
structure Darks (N rg cg W H : Nat) (q : Nat → Bool) (w1 : World) (y x : Nat) (wx : World) : Prop where
  r : wx.rowIs rg 3 H (fun k => .int .i64 ((rowsAt q W y x k : Nat) : Int))
  c : wx.rowIs cg 3 W (fun k => .int .i64 ((colsAt q W y x k : Nat) : Int))
  b : Below N w1 wx

theorem Darks.row {N rg cg W H y : Nat} {q : Nat → Bool} {w1 wx : World} (h : Darks N rg cg W H q w1 y W wx) : Darks N rg cg W H q w1 (y + 1) 0 wx :=
  ⟨h.r.congr fun i _ => by rw [rowsAt_row], h.c.congr fun i hi => by rw [colsAt_row _ _ _ _ hi], h.b⟩
end Go.Proofs.Ytmoplmjfnjgcaaa
namespace Go.Proofs.Ytmoplmjfnjgcaaa
open Go.RowKit
set_option linter.unusedSimpArgs false
set_option linter.unusedVariables false

theorem heap_setB {w : World} {b o : Nat} {arr : Array Value} {t : TypeId} {fr : Nat × Nat} {v : Value} (h : w.heap[b]? = some (.cells arr t fr)) : (w.setCell ⟨b, o, none⟩ v).heap[b]? = some (.cells (arr.setIfInBounds o v) t fr) := by
  simp [World.setCell, Array.getElem?_modify, h]
end Go.Proofs.Ytmoplmjfnjgcaaa
