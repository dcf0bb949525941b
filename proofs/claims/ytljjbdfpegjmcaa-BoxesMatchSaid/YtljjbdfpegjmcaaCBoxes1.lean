/-
  What boxes_holds leans on: contracts of the functions that it calls.
-/
import Derived.Test.YtljjbdfpegjmcaaRows
import Derived.WalkKit
import Derived.WalkSpells
import Derived.WalkLawsBesides
import Derived.Lib.Hide
import Derived.Deep.RegionHeld3
import Derived.Shelf.Abstract
import Derived.Deep.QuietTactic
import Derived.BigQuiet
import Derived.Deep.AppendLies
import Derived.Deep.DrawnRows
import Derived.Deep.RegionLaw
import Derived.ProofKit
import Derived.OpenShut
import Derived.ShutString
import Derived.ChangeOld
import Derived.Lib.SmallJoins
import Derived.Deep.Grids
import Derived.Deep.DeepCutAuto
import Derived.Lib.MinMax
import Derived.Laws.EntriesVeiled
namespace Go.Proofs.Ytljjbdfpegjmcaa
open Go.RowKit
set_option linter.unusedSimpArgs false
set_option linter.unusedVariables false

theorem ret_int {k : IntKind} {a b : Int} (h : a = b) : Ending.returned (.int k a) = .returned (.int k b) := by rw [h]
theorem ret_bool {a b : Bool} (h : a = b) : Ending.returned (.bool a) = .returned (.bool b) := by rw [h]

/-- 'e, if c, else no error'. -/
def whenI (c : Bool) (e : Int) : Int := if c then e else 0

theorem when_any (c : Bool) (e : Int) (w : World) : Calls Try.prog 21 #[.bool c, .int .i64 e] w fun r w' => r = .returned (.int .i64 (whenI c e)) ∧ w = w' := by
  cases c
  · go_enter Try.func21, Try.ntmps21
    go_wp2
    go_ret
    exact ⟨rfl, rfl⟩
  · go_enter Try.func21, Try.ntmps21
    go_wp2
    go_ret
    exact ⟨rfl, rfl⟩

theorem outside_no (n a b : Int) (w : World) (h : a ≤ n ∧ n ≤ b) : Calls Try.prog 48 #[.int .i64 n, .int .i64 a, .int .i64 b] w fun r w' => r = .returned (.bool false) ∧ w = w' := by
  obtain ⟨h1, h2⟩ := h
  have h3 : ¬ n < a := by omega
  have h4 : ¬ b < n := by omega
  go_enter Try.func48, Try.ntmps48
  go_wp2
  go_ret
  exact ⟨rfl, rfl⟩
theorem outside_yes (n a b : Int) (w : World) (h : ¬ (a ≤ n ∧ n ≤ b)) : Calls Try.prog 48 #[.int .i64 n, .int .i64 a, .int .i64 b] w fun r w' => r = .returned (.bool true) ∧ w = w' := by
  by_cases h1 : n < a
  · clear h
    go_enter Try.func48, Try.ntmps48
    go_wp2
    go_ret
    exact ⟨rfl, rfl⟩
  · have h4 : b < n := by omega
    clear h
    go_enter Try.func48, Try.ntmps48
    go_wp2
    go_ret
    exact ⟨rfl, rfl⟩
/-- The error of a size. -/
def sizeErr (w h : Int) : Int := if w < 1 ∨ h < 1 ∨ 4000 < w ∨ 4000 < h then 3 else if 1048576 < w * h then 4 else 0

end Go.Proofs.Ytljjbdfpegjmcaa
namespace Go.Proofs.Ytljjbdfpegjmcaa
open Go.RowKit
set_option linter.unusedSimpArgs false
set_option linter.unusedVariables false

/-- The first of two errors. -/
def orI (x y : Int) : Int := if x = 0 then y else x

theorem new_below (w : World) (o : Obj) : Below w.heap.size w (w.alloc o) := (Below.refl _ _).alloc (Nat.le_refl _) _
theorem below_step {w a b : World} (h : Below w.heap.size w a) (k : Below a.heap.size a b) : Below w.heap.size w b := h.trans (k.mono h.size)
theorem below_alloc {w a : World} (h : Below w.heap.size w a) (o : Obj) : Below w.heap.size w (a.alloc o) := h.alloc h.size o

/-- The error of a page: of its size, else of the number of its pixels. -/
def pageErr (a b : Int) (n : Nat) : Int := if sizeErr a b = 0 then (if (n : Int) = a * b then 0 else 2) else sizeErr a b

end Go.Proofs.Ytljjbdfpegjmcaa
namespace Go.Proofs.Ytljjbdfpegjmcaa
open Go.RowKit
set_option linter.unusedSimpArgs false
set_option linter.unusedVariables false

/-- The first n places of a page that is w wide, row by row. -/
def places {α : Type} (w : Nat) (f : Nat → Nat → α) (n : Nat) : List α := (List.range n).map fun k => f (k % w) (k / w)

theorem places_succ {α : Type} (w : Nat) (f : Nat → Nat → α) (x y : Nat) (hx : x < w) : places w f (y * w + x + 1) = places w f (y * w + x) ++ [f x y] := by
  have h1 : (y * w + x) % w = x := by rw [Nat.add_comm, Nat.mul_comm, Nat.add_mul_mod_self_left, Nat.mod_eq_of_lt hx]
  have h2 : (y * w + x) / w = y := by rw [Nat.add_comm, Nat.mul_comm, Nat.add_mul_div_left _ _ (by omega), Nat.div_eq_of_lt hx, Nat.zero_add]
  simp [places, List.range_succ, h1, h2]

theorem below_owns {w w' : World} {base : Nat} {e : TypeId} {size : Nat} {v : Value} {n : Nat} {xs : List Value} (h : w.ownsRow base e size v n xs) (hb : Below w.heap.size w w') : w'.ownsRow base e size v n xs :=
  h.kept (row := none) ⟨hb.os, hb.tape, hb.output, hb.size, fun k hk _ => hb.block k hk⟩ (by cases v.ownBlock <;> simp)

theorem info_int : (Try.prog.info? 3).map (fun i => (i.zero, i.size, i.bytes)) = some (some (.int .i64 0), 1, 8) := by kernel_rfl

theorem owns_base {w : World} {base base' : Nat} {e : TypeId} {size : Nat} {v : Value} {n : Nat} {xs : List Value} (h : w.ownsRow base e size v n xs) (hb : base' ≤ base) : w.ownsRow base' e size v n xs := by
  obtain ⟨h1, h2⟩ := h
  refine ⟨h1, ?_⟩
  rcases h2 with h2 | ⟨g, cap, cur, hv, hg, r⟩
  · exact Or.inl h2
  · exact Or.inr ⟨g, cap, cur, hv, Nat.le_trans hb hg, r⟩

theorem info_bool : (Try.prog.info? 4).map (fun i => (i.zero, i.size, i.bytes)) = some (some (.bool false), 1, 1) := by kernel_rfl

theorem below_drewN {B : Nat} {a w : World} (h : Below B a w) (q : Nat) : Below B a (w.drewN q) := ⟨h.os, h.tape, h.output, h.size, h.block⟩

theorem below_block {w w' : World} {b : Nat} {o : Obj} (hb : Below w.heap.size w w') (h : w.heap[b]? = some o) : w'.heap[b]? = some o :=
  (hb.block b (Array.getElem?_eq_some_iff.1 h).1).trans h
theorem grown_block {w w' : World} {b : Nat} {o : Obj} {row : Option Nat} (hg : w.grownBy w' row) (h : w.heap[b]? = some o) (hne : some b ≠ row) : w'.heap[b]? = some o :=
  (hg.block b (Array.getElem?_eq_some_iff.1 h).1 hne).trans h

end Go.Proofs.Ytljjbdfpegjmcaa
namespace Go.Proofs.Ytljjbdfpegjmcaa
open Go.RowKit
set_option linter.unusedSimpArgs false
set_option linter.unusedVariables false

set_option maxRecDepth 100000 in
theorem equalInt_true (g1 o1 g2 o2 n c1 c2 : Nat) (z : Nat → Int) (w : World) (hn : n ≤ 100000000)
    (h1 : ∀ j, j < n → w.cell? ⟨g1, o1 + j, none⟩ = some (.int .i64 (z j))) (h2 : ∀ j, j < n → w.cell? ⟨g2, o2 + j, none⟩ = some (.int .i64 (z j))) :
    Calls Try.prog 18 #[.slice (some ⟨g1, o1, none⟩) n c1, .slice (some ⟨g2, o2, none⟩) n c2] w fun e w' => e = .returned (.bool true) ∧ ∃ q, w' = w.drewN q := by
  have H1 := Lib.hid h1
  have H2 := Lib.hid h2
  clear h1 h2
  go_enter Try.func18, Try.ntmps18
  go_wp2
  go_loopw [13] (fun i wr => ∃ k q : Nat, k ≤ n ∧ i = .int .i64 k ∧ wr = w.drewN q) (fun i _ => n - (intOf i).toNat)
  case atStart => exact ⟨0, 0, Nat.zero_le _, rfl, rfl⟩
  case round =>
    obtain ⟨k, q, hk, rfl, rfl⟩ := hrel
    by_cases hlt : k < n
    · have e1 := H1.out k hlt
      have e2 := H2.out k hlt
      generalize z k = x at e1 e2
      have i1 : (k : Int) < (n : Int) := by omega
      have i0 : (0 : Int) ≤ (k : Int) := by omega
      go_wp2
      go_quiet (fail)
      go_wp2
      go_roundw
      case rel => exact ⟨k + 1, _, by omega, by go_num, rfl⟩
      case measure => simp [intOf]; omega
    · go_wp2
      go_ret
      exact ⟨rfl, q, rfl⟩

end Go.Proofs.Ytljjbdfpegjmcaa
namespace Go.Proofs.Ytljjbdfpegjmcaa
open Go.RowKit
set_option linter.unusedSimpArgs false
set_option linter.unusedVariables false

/-- A box is in a page of W by H. -/
def InP (X Y bw bh : Int) (W H : Int) : Prop := (0 ≤ X ∧ X ≤ W - 1) ∧ (0 ≤ Y ∧ Y ≤ H - 1) ∧ (1 ≤ bw ∧ bw ≤ W - X) ∧ (1 ≤ bh ∧ bh ≤ H - Y)

end Go.Proofs.Ytljjbdfpegjmcaa
namespace Go.Proofs.Ytljjbdfpegjmcaa
open Go.RowKit
set_option linter.unusedSimpArgs false
set_option linter.unusedVariables false
attribute [local go_sem ↓] Go.wp_at_zero Go.wp_at_succ

/-- What holds while Made runs: n values are there; they lie in a row of their own, which the page's variable leads to. -/
def MadeRel (w h : Nat) (f : Nat → Nat → Bool) (W0 : World) (n : Nat) (wr : World) (v : Value) : Prop :=
  wr.ownsRow (W0.heap.size + 2) 4 1 v n ((places w f n).map Value.bool) ∧ wr.heap[W0.heap.size]? = some (.cells #[.int .i64 0, .int .i64 0, .slice none 0 0] 47 (0, 0)) ∧
  wr.heap[W0.heap.size + 1]? = some (.cells #[.int .i64 w, .int .i64 h, v] 47 (0, 0)) ∧ Below W0.heap.size W0 wr

theorem MadeRel.later {w h : Nat} {f : Nat → Nat → Bool} {W0 wr w' : World} {n : Nat} {v : Value} (hr : MadeRel w h f W0 n wr v) (hb : Below wr.heap.size wr w') : MadeRel w h f W0 n w' v :=
  ⟨below_owns hr.1 hb, below_block hb hr.2.1, below_block hb hr.2.2.1, below_step hr.2.2.2 hb⟩

theorem MadeRel.stored {w h : Nat} {f : Nat → Nat → Bool} {W0 wr w1 : World} {v v' : Value} {x y : Nat} (hr : MadeRel w h f W0 (y * w + x) wr v) (hx : x < w) (q : Bool) (hq : q = f x y)
    (hown : w1.ownsRow (W0.heap.size + 2) 4 1 v' (y * w + x + 1) ((places w f (y * w + x)).map Value.bool ++ [Value.bool q])) (hg : wr.grownBy w1 v.ownBlock) :
    MadeRel w h f W0 (y * w + x + 1) (w1.setCell ⟨W0.heap.size + 1, 2, none⟩ v') v' := by
  obtain ⟨h1, h2, h3, h4⟩ := hr
  have hrow : ∀ k, v.ownBlock = some k → W0.heap.size + 2 ≤ k := fun k hk => (h1.lt k hk).1
  have n0 : some W0.heap.size ≠ v.ownBlock := fun e => by have := hrow _ e.symm; omega
  have n1 : some (W0.heap.size + 1) ≠ v.ownBlock := fun e => by have := hrow _ e.symm; omega
  refine ⟨?_, ?_, ?_, ?_⟩
  · rw [places_succ w f x y hx, List.map_append, ← hq]
    exact ownsRow_setCell_below hown (by simp) _
  · rw [Below.heap_setCell _ _ _ _ (by simp)]
    exact grown_block hg h2 n0
  · exact heap_setCell_same w1 (W0.heap.size + 1) 2 #[.int .i64 w, .int .i64 h, v] 47 v' (grown_block hg h3 n1)
  · exact (h4.grown hg h4.size (fun k hk => by have := hrow k hk; omega)).setCell (by simp) _

end Go.Proofs.Ytljjbdfpegjmcaa
namespace Go.Proofs.Ytljjbdfpegjmcaa
open Go.RowKit
set_option linter.unusedSimpArgs false
set_option linter.unusedVariables false
attribute [local go_sem ↓] Go.wp_at_zero Go.wp_at_succ

theorem owns_shape {w : World} {base : Nat} {e : TypeId} {size : Nat} {v : Value} {n : Nat} {xs : List Value} (h : w.ownsRow base e size v n xs) : ∃ a l c, v = .slice a l c := by
  rcases h.2 with ⟨h0, _⟩ | ⟨g, cap, cur, h0, _⟩
  · exact ⟨_, _, _, h0⟩
  · exact ⟨_, _, _, h0⟩

end Go.Proofs.Ytljjbdfpegjmcaa
namespace Go.Proofs.Ytljjbdfpegjmcaa
open Go.ChangeShapes Go.WideShapes Go.ChangeAt Go.RowKit Go.Joins
open Go.ChangeMaps (open_string shut_string)
set_option linter.unusedVariables false

theorem own : ownKnob Try.prog.godebug = none := by kernel_rfl
theorem laidOut : laidOutB Try.prog = true := by kernel_rfl
end Go.Proofs.Ytljjbdfpegjmcaa
namespace Go.Proofs.Ytljjbdfpegjmcaa
open Go.RowKit
set_option linter.unusedSimpArgs false
set_option linter.unusedVariables false

instance (X Y bw bh W H : Int) : Decidable (InP X Y bw bh W H) := by unfold InP; infer_instance

/-- The error of a cut: of the page, else of the box. -/
def cutErr (a b : Int) (n : Nat) (X Y bw bh : Int) : Int := if pageErr a b n = 0 then (if InP X Y bw bh a b then 0 else 13) else pageErr a b n

/-- What a cut is, in memory: nothing with an error; else the places of the box. -/
def CutIs (a b : Int) (n : Nat) (X Y bw bh : Int) (z : Nat → Bool) (B : Nat) (w : World) (i j : Int) (sl : Option Addr) (n' c' : Nat) : Prop :=
  (cutErr a b n X Y bw bh ≠ 0 ∧ i = 0 ∧ j = 0 ∧ sl = none ∧ n' = 0 ∧ c' = 0) ∨
  (cutErr a b n X Y bw bh = 0 ∧ i = bw ∧ j = bh ∧ n' = bw.toNat * bh.toNat ∧ ∃ g, B ≤ g ∧ sl = some ⟨g, 0, none⟩ ∧ ∀ k, k < n' → w.cell? ⟨g, 0 + k, none⟩ = some (.bool (z ((Y.toNat + k / bw.toNat) * a.toNat + X.toNat + k % bw.toNat))))

theorem CutIs.later {a b : Int} {n : Nat} {X Y bw bh : Int} {z : Nat → Bool} {B : Nat} {w w' : World} {i j : Int} {sl : Option Addr} {n' c' : Nat} (h : CutIs a b n X Y bw bh z B w i j sl n' c') (hb : Below w.heap.size w w') : CutIs a b n X Y bw bh z B w' i j sl n' c' := by
  rcases h with h | ⟨h1, h2, h3, h4, g, h5, h6, h7⟩
  · exact .inl h
  · exact .inr ⟨h1, h2, h3, h4, g, h5, h6, fun k hk => cell_later hb (h7 k hk)⟩
end Go.Proofs.Ytljjbdfpegjmcaa
namespace Go.Proofs.Ytljjbdfpegjmcaa
open Go.RowKit
set_option linter.unusedSimpArgs false
set_option linter.unusedVariables false

/-- The sum of the first n of f. -/
def sumN (f : Nat → Nat) : Nat → Nat
  | 0 => 0
  | n + 1 => sumN f n + f n

/-- The ink of one row of a box. -/
def ink1 (z : Nat → Bool) (W X y : Nat) (n : Nat) : Nat := sumN (fun i => (z (y * W + (X + i))).toNat) n
end Go.Proofs.Ytljjbdfpegjmcaa

namespace Go.Proofs.Ytljjbdfpegjmcaa
open Go.RowKit
set_option linter.unusedSimpArgs false
set_option linter.unusedVariables false

end Go.Proofs.Ytljjbdfpegjmcaa
namespace Go.Proofs.Ytljjbdfpegjmcaa
set_option linter.unusedSimpArgs false
set_option linter.unusedVariables false

/-- The sum of n values from k on. -/
def rowSum (P : Nat → Int) (k : Nat) : Nat → Int
  | 0 => 0
  | n + 1 => rowSum P k n + P (k + n)

/-- The sum of a rectangle of a page that is W wide: from (x, y) on, nx wide and ny high. -/
def rectSum (P : Nat → Int) (W y x nx : Nat) : Nat → Int
  | 0 => 0
  | n + 1 => rectSum P W y x nx n + rowSum P ((y + n) * W + x) nx

end Go.Proofs.Ytljjbdfpegjmcaa
namespace Go.Proofs.Ytljjbdfpegjmcaa
open Go.RowKit
set_option linter.unusedSimpArgs false
set_option linter.unusedVariables false

/-- A list of numbers, as values. -/
def numsOf (f : Nat → Nat) (n : Nat) : List Value := (List.range n).map fun k => Value.int .i64 ((f k : Nat) : Int)
theorem numsOf_get (f : Nat → Nat) (n k : Nat) (h : k < n) : (numsOf f n)[k]? = some (.int .i64 ((f k : Nat) : Int)) := by simp [numsOf, List.getElem?_range h]

end Go.Proofs.Ytljjbdfpegjmcaa

namespace Go.Proofs.Ytljjbdfpegjmcaa
open Go.RowKit
set_option linter.unusedSimpArgs false
set_option linter.unusedVariables false

end Go.Proofs.Ytljjbdfpegjmcaa

namespace Go.Proofs.Ytljjbdfpegjmcaa
open Go.RowKit
set_option linter.unusedSimpArgs false
set_option linter.unusedVariables false

theorem numsOf_congr {f g : Nat → Nat} {n : Nat} (h : ∀ j, j < n → f j = g j) : numsOf f n = numsOf g n := by
  unfold numsOf
  refine List.map_congr_left fun k hk => ?_
  rw [h k (by simpa using hk)]
theorem numsOf_set {f g : Nat → Nat} {n j v : Nat} (hj : j < n) (hv : g j = v) (h : ∀ i, i < n → i ≠ j → g i = f i) : (numsOf f n).set j (.int .i64 ((v : Nat) : Int)) = numsOf g n := by
  refine List.ext_getElem? fun k => ?_
  rw [List.getElem?_set]
  by_cases hk : k < n
  · rw [numsOf_get g n k hk]
    by_cases e : j = k
    · subst e; simp [numsOf, hv, hj]
    · rw [if_neg e, numsOf_get f n k hk, h k hk fun e' => e e'.symm]
  · have h1 : (numsOf g n)[k]? = none := by simp [numsOf]; omega
    have h2 : (numsOf f n)[k]? = none := by simp [numsOf]; omega
    rw [h1]
    by_cases e : j = k
    · omega
    · rw [if_neg e, h2]
theorem numsOf_length (f : Nat → Nat) (n : Nat) : (numsOf f n).length = n := by simp [numsOf]

/-- The counts of the rows while the pixel (x, y) is the next one. -/
def rowsAt (z : Nat → Bool) (W y x j : Nat) : Nat := if j < y then ink1 z W 0 j W else if j = y then ink1 z W 0 y x else 0
/-- The ink of the first y places of a column. -/
def colN (z : Nat → Bool) (W i y : Nat) : Nat := sumN (fun k => (z (k * W + i)).toNat) y
def colsAt (z : Nat → Bool) (W y x i : Nat) : Nat := if i < x then colN z W i (y + 1) else colN z W i y

theorem rowsAt_row (z : Nat → Bool) (W y j : Nat) : rowsAt z W y W j = rowsAt z W (y + 1) 0 j := by
  unfold rowsAt
  by_cases h : j < y
  · rw [if_pos h, if_pos (by omega)]
  · rw [if_neg h]
    by_cases e : j = y
    · rw [if_pos e, if_pos (by omega), e]
    · rw [if_neg e, if_neg (by omega)]
      split <;> simp [ink1, sumN]
theorem colsAt_row (z : Nat → Bool) (W y i : Nat) (h : i < W) : colsAt z W y W i = colsAt z W (y + 1) 0 i := by
  unfold colsAt
  rw [if_pos h, if_neg (by omega)]
theorem numsOf_zero (n : Nat) : List.replicate n (Value.int .i64 0) = numsOf (fun _ => 0) n := by
  refine List.ext_getElem? fun k => ?_
  by_cases hk : k < n
  · rw [numsOf_get _ _ _ hk, List.getElem?_replicate, if_pos hk]; rfl
  · rw [List.getElem?_replicate, if_neg hk]; symm; exact List.getElem?_eq_none (by rw [numsOf_length]; omega)

end Go.Proofs.Ytljjbdfpegjmcaa

namespace Go.Proofs.Ytljjbdfpegjmcaa
open Go.RowKit
set_option linter.unusedSimpArgs false
set_option linter.unusedVariables false

/-- What a list of counts is, in memory: nothing with an error, else the counts. -/
def ListIs (E : Int) (f : Nat → Nat) (m B : Nat) (w : World) (sl : Option Addr) (n' c' : Nat) : Prop :=
  (E ≠ 0 ∧ sl = none ∧ n' = 0 ∧ c' = 0) ∨ (E = 0 ∧ n' = m ∧ ∃ g, B ≤ g ∧ sl = some ⟨g, 0, none⟩ ∧ ∀ k, k < m → w.cell? ⟨g, 0 + k, none⟩ = some (.int .i64 ((f k : Nat) : Int)))

theorem ListIs.later {E : Int} {f : Nat → Nat} {m B : Nat} {w w' : World} {sl : Option Addr} {n' c' : Nat} (h : ListIs E f m B w sl n' c') (hb : Below w.heap.size w w') : ListIs E f m B w' sl n' c' := by
  rcases h with h | ⟨h1, h2, g, h3, h4, h5⟩
  · exact .inl h
  · exact .inr ⟨h1, h2, g, h3, h4, fun k hk => cell_later hb (h5 k hk)⟩

end Go.Proofs.Ytljjbdfpegjmcaa
namespace Go.Proofs.Ytljjbdfpegjmcaa
open Go.RowKit
set_option linter.unusedSimpArgs false
set_option linter.unusedVariables false

end Go.Proofs.Ytljjbdfpegjmcaa

namespace Go.Proofs.Ytljjbdfpegjmcaa
open Go.RowKit
set_option linter.unusedSimpArgs false
set_option linter.unusedVariables false

theorem block4 {w : World} {b : Nat} {x y z u : Value} {t : TypeId} (h : w.heap[b]? = some (.cells #[x, y, z, u] t (0, 0))) :
    (w.cell? ⟨b, 0, none⟩ = some x ∧ w.cell? ⟨b, 1, none⟩ = some y ∧ w.cell? ⟨b, 2, none⟩ = some z ∧ w.cell? ⟨b, 3, none⟩ = some u) ∧ w.frozen? ⟨b, 0, none⟩ = false ∧ w.frozen? ⟨b, 1, none⟩ = false ∧ w.frozen? ⟨b, 2, none⟩ = false ∧ w.frozen? ⟨b, 3, none⟩ = false := by
  exact ⟨⟨by rw [cell_of_row w b 0 _ t (0, 0) h]; rfl, by rw [cell_of_row w b 1 _ t (0, 0) h]; rfl, by rw [cell_of_row w b 2 _ t (0, 0) h]; rfl, by rw [cell_of_row w b 3 _ t (0, 0) h]; rfl⟩, frozen_of_row w b 0 _ t h, frozen_of_row w b 1 _ t h, frozen_of_row w b 2 _ t h, frozen_of_row w b 3 _ t h⟩

end Go.Proofs.Ytljjbdfpegjmcaa
namespace Go.Proofs.Ytljjbdfpegjmcaa
open Go.RowKit
set_option linter.unusedSimpArgs false
set_option linter.unusedVariables false

/-- The error of a box of any place. -/
def bxErr (X Y bw bh : Int) : Int := if ((-1048576 ≤ X ∧ X ≤ 1048576) ∧ (-1048576 ≤ Y ∧ Y ≤ 1048576)) ∧ (1 ≤ bw ∧ bw ≤ 1048576) ∧ (1 ≤ bh ∧ bh ≤ 1048576) then 0 else 3

set_option maxHeartbeats 800000 in
set_option maxRecDepth 100000 in
theorem checkBox_any (X Y bw bh : Int) (w : World) : Calls Try.prog 8 #[.agg #[.int .i64 X, .int .i64 Y, .int .i64 bw, .int .i64 bh]] w fun e w' => e = .returned (.int .i64 (bxErr X Y bw bh)) ∧ Below w.heap.size w w' := by
  by_cases h1 : -1048576 ≤ X ∧ X ≤ 1048576
  · have H1 := Lib.hid h1
    by_cases h2 : -1048576 ≤ Y ∧ Y ≤ 1048576
    · have H2 := Lib.hid h2
      by_cases h3 : 1 ≤ bw ∧ bw ≤ 1048576
      · have H3 := Lib.hid h3
        by_cases h4 : 1 ≤ bh ∧ bh ≤ 1048576
        · have H4 := Lib.hid h4
          have HE := Lib.hid (show bxErr X Y bw bh = 0 by unfold bxErr; rw [if_pos ⟨⟨h1, h2⟩, h3, h4⟩])
          clear h1 h2 h3 h4
          go_enter Try.func8, Try.ntmps8
          go_wp2_with (first | (go_at_call 48; (with_reducible refine (outside_no X (-1048576) 1048576 _ H1.out).mono ?_); rintro e w' ⟨rfl, rfl⟩) | (go_at_call 48; (with_reducible refine (outside_no Y (-1048576) 1048576 _ H2.out).mono ?_); rintro e w' ⟨rfl, rfl⟩) | (go_at_call 48; (with_reducible refine (outside_no bw 1 1048576 _ H3.out).mono ?_); rintro e w' ⟨rfl, rfl⟩) | (go_at_call 48; (with_reducible refine (outside_no bh 1 1048576 _ H4.out).mono ?_); rintro e w' ⟨rfl, rfl⟩))
          go_ret
          exact ⟨ret_int HE.out.symm, new_below _ _⟩
        · have H4 := Lib.hid h4
          have HE := Lib.hid (show bxErr X Y bw bh = 3 by unfold bxErr; rw [if_neg (fun h => h4 h.2.2)])
          clear h1 h2 h3 h4
          go_enter Try.func8, Try.ntmps8
          go_wp2_with (first | (go_at_call 48; (with_reducible refine (outside_no X (-1048576) 1048576 _ H1.out).mono ?_); rintro e w' ⟨rfl, rfl⟩) | (go_at_call 48; (with_reducible refine (outside_no Y (-1048576) 1048576 _ H2.out).mono ?_); rintro e w' ⟨rfl, rfl⟩) | (go_at_call 48; (with_reducible refine (outside_no bw 1 1048576 _ H3.out).mono ?_); rintro e w' ⟨rfl, rfl⟩) | (go_at_call 48; (with_reducible refine (outside_yes bh 1 1048576 _ H4.out).mono ?_); rintro e w' ⟨rfl, rfl⟩))
          go_ret
          exact ⟨ret_int HE.out.symm, new_below _ _⟩
      · have H3 := Lib.hid h3
        have HE := Lib.hid (show bxErr X Y bw bh = 3 by unfold bxErr; rw [if_neg (fun h => h3 h.2.1)])
        clear h1 h2 h3
        go_enter Try.func8, Try.ntmps8
        go_wp2_with (first | (go_at_call 48; (with_reducible refine (outside_no X (-1048576) 1048576 _ H1.out).mono ?_); rintro e w' ⟨rfl, rfl⟩) | (go_at_call 48; (with_reducible refine (outside_no Y (-1048576) 1048576 _ H2.out).mono ?_); rintro e w' ⟨rfl, rfl⟩) | (go_at_call 48; (with_reducible refine (outside_yes bw 1 1048576 _ H3.out).mono ?_); rintro e w' ⟨rfl, rfl⟩))
        go_ret
        exact ⟨ret_int HE.out.symm, new_below _ _⟩
    · have H2 := Lib.hid h2
      have HE := Lib.hid (show bxErr X Y bw bh = 3 by unfold bxErr; rw [if_neg (fun h => h2 h.1.2)])
      clear h1 h2
      go_enter Try.func8, Try.ntmps8
      go_wp2_with (first | (go_at_call 48; (with_reducible refine (outside_no X (-1048576) 1048576 _ H1.out).mono ?_); rintro e w' ⟨rfl, rfl⟩) | (go_at_call 48; (with_reducible refine (outside_yes Y (-1048576) 1048576 _ H2.out).mono ?_); rintro e w' ⟨rfl, rfl⟩))
      go_ret
      exact ⟨ret_int HE.out.symm, new_below _ _⟩
  · have H1 := Lib.hid h1
    have HE := Lib.hid (show bxErr X Y bw bh = 3 by unfold bxErr; rw [if_neg (fun h => h1 h.1.1)])
    clear h1
    go_enter Try.func8, Try.ntmps8
    go_wp2_with (first | (go_at_call 48; (with_reducible refine (outside_yes X (-1048576) 1048576 _ H1.out).mono ?_); rintro e w' ⟨rfl, rfl⟩))
    go_ret
    exact ⟨ret_int HE.out.symm, new_below _ _⟩

theorem below_two {w a : World} {B b : Nat} {x y : Value} (h : Below B w a) (hb : B ≤ b) : Below B w ((a.setCell ⟨b, 0, none⟩ x).setCell ⟨b, 1, none⟩ y) := (h.setCell hb _).setCell hb _

theorem spanC_any (X Y bw bh : Int) (w : World) (hX : -2000000 ≤ X ∧ X ≤ 2000000) (hw : 0 ≤ bw ∧ bw ≤ 2000000) : Calls Try.prog 51 #[.agg #[.int .i64 X, .int .i64 Y, .int .i64 bw, .int .i64 bh]] w fun e w' => e = .returned (.agg #[.int .i64 X, .int .i64 (X + bw)]) ∧ Below w.heap.size w w' := by
  obtain ⟨x1, x2⟩ := hX
  obtain ⟨x3, x4⟩ := hw
  go_enter Try.func51, Try.ntmps51
  go_wp2_with fail
  exact bodyPost_ret (v := .agg #[.int .i64 X, .int .i64 (X + bw)]) (by simp [results, Try.results51, go_sem]) rfl ⟨rfl, by first | exact below_two (below_alloc (new_below _ _) _) (by simp) | exact below_alloc (new_below _ _) _⟩
theorem spanR_any (X Y bw bh : Int) (w : World) (hX : -2000000 ≤ Y ∧ Y ≤ 2000000) (hw : 0 ≤ bh ∧ bh ≤ 2000000) : Calls Try.prog 52 #[.agg #[.int .i64 X, .int .i64 Y, .int .i64 bw, .int .i64 bh]] w fun e w' => e = .returned (.agg #[.int .i64 Y, .int .i64 (Y + bh)]) ∧ Below w.heap.size w w' := by
  obtain ⟨x1, x2⟩ := hX
  obtain ⟨x3, x4⟩ := hw
  go_enter Try.func52, Try.ntmps52
  go_wp2_with fail
  exact bodyPost_ret (v := .agg #[.int .i64 Y, .int .i64 (Y + bh)]) (by simp [results, Try.results52, go_sem]) rfl ⟨rfl, by first | exact below_two (below_alloc (new_below _ _) _) (by simp) | exact below_alloc (new_below _ _) _⟩

@[local go_sem high] theorem run_max_three {P : Program} (w : World) (ts : Array TypeId) (t : TypeId) (k k' k'' : IntKind) (x y z : Int) :
    (Builtin.max_ ts t #[.int k x, .int k' y, .int k'' z]).run P w = .ok (.int k (max (max x y) z)) w := by
  have e1 : (if y > x then y else x) = max x y := by
    rw [Int.max_def]
    split <;> split <;> omega
  have e2 : (if z > max x y then z else max x y) = max (max x y) z := by
    rw [Int.max_def (max x y)]
    split <;> split <;> omega
  simp [Builtin.max_, Builtin.max2, e1, e2]

/-- How much lies between two stretches. -/
def apartV (a b c d : Int) : Int := max 0 (max (c - b) (a - d))

theorem apart_any (a b c d : Int) (w : World) (ha : (-5000000 ≤ a ∧ a ≤ 5000000) ∧ (-5000000 ≤ b ∧ b ≤ 5000000)) (hc : (-5000000 ≤ c ∧ c ≤ 5000000) ∧ (-5000000 ≤ d ∧ d ≤ 5000000)) :
    Calls Try.prog 59 #[.agg #[.int .i64 a, .int .i64 b], .agg #[.int .i64 c, .int .i64 d]] w fun e w' => e = .returned (.int .i64 (apartV a b c d)) ∧ Below w.heap.size w w' := by
  obtain ⟨⟨x1, x2⟩, x3, x4⟩ := ha
  obtain ⟨⟨x5, x6⟩, x7, x8⟩ := hc
  go_enter Try.func59, Try.ntmps59
  go_wp2_with fail
  go_ret
  exact ⟨rfl, below_alloc (new_below _ _) _⟩

def NearX (X1 w1 X2 w2 : Int) : Int := apartV X1 (X1 + w1) X2 (X2 + w2)

/-- Numbers of a box that is right. -/
def BxOK (X Y bw bh : Int) : Prop := ((-1048576 ≤ X ∧ X ≤ 1048576) ∧ (-1048576 ≤ Y ∧ Y ≤ 1048576)) ∧ (1 ≤ bw ∧ bw ≤ 1048576) ∧ (1 ≤ bh ∧ bh ≤ 1048576)

set_option maxHeartbeats 800000 in
set_option maxRecDepth 100000 in
theorem near_any (X Y bw bh U V p q : Int) (w : World) (h1 : BxOK X Y bw bh) (h2 : BxOK U V p q) :
    Calls Try.prog 14 #[.agg #[.int .i64 X, .int .i64 Y, .int .i64 bw, .int .i64 bh], .agg #[.int .i64 U, .int .i64 V, .int .i64 p, .int .i64 q]] w fun e w' => e = .returned (.tuple #[.int .i64 (NearX X bw U p), .int .i64 (NearX Y bh V q)]) ∧ Below w.heap.size w w' := by
  have H1 := Lib.hid h1
  have H2 := Lib.hid h2
  have C1 := Lib.hid (show (-2000000 ≤ X ∧ X ≤ 2000000) ∧ (0 ≤ bw ∧ bw ≤ 2000000) by unfold BxOK at h1; omega)
  have C2 := Lib.hid (show (-2000000 ≤ U ∧ U ≤ 2000000) ∧ (0 ≤ p ∧ p ≤ 2000000) by unfold BxOK at h2; omega)
  have R1 := Lib.hid (show (-2000000 ≤ Y ∧ Y ≤ 2000000) ∧ (0 ≤ bh ∧ bh ≤ 2000000) by unfold BxOK at h1; omega)
  have R2 := Lib.hid (show (-2000000 ≤ V ∧ V ≤ 2000000) ∧ (0 ≤ q ∧ q ≤ 2000000) by unfold BxOK at h2; omega)
  have A1 := Lib.hid (show ((-5000000 ≤ X ∧ X ≤ 5000000) ∧ (-5000000 ≤ X + bw ∧ X + bw ≤ 5000000)) ∧ ((-5000000 ≤ U ∧ U ≤ 5000000) ∧ (-5000000 ≤ U + p ∧ U + p ≤ 5000000)) by unfold BxOK at h1 h2; omega)
  have A2 := Lib.hid (show ((-5000000 ≤ Y ∧ Y ≤ 5000000) ∧ (-5000000 ≤ Y + bh ∧ Y + bh ≤ 5000000)) ∧ ((-5000000 ≤ V ∧ V ≤ 5000000) ∧ (-5000000 ≤ V + q ∧ V + q ≤ 5000000)) by unfold BxOK at h1 h2; omega)
  clear h1 h2
  go_enter Try.func14, Try.ntmps14
  go_wp2_with fail
  obtain ⟨w1, hw1⟩ : ∃ w1, w1 = (w.alloc (.cells #[.int .i64 X, .int .i64 Y, .int .i64 bw, .int .i64 bh] 25)).alloc (.cells #[.int .i64 U, .int .i64 V, .int .i64 p, .int .i64 q] 25) := ⟨_, rfl⟩
  have B1 := Lib.hid (show Below w.heap.size w w1 by rw [hw1]; exact below_alloc (new_below _ _) _)
  have q1 : w1.heap[w.heap.size]? = some (.cells #[.int .i64 X, .int .i64 Y, .int .i64 bw, .int .i64 bh] 25 (0, 0)) := by rw [hw1, Below.heap_alloc _ _ _ (by simp)]; exact heap_alloc_new _ _
  have q2 : w1.heap[w.heap.size + 1]? = some (.cells #[.int .i64 U, .int .i64 V, .int .i64 p, .int .i64 q] 25 (0, 0)) := by
    rw [hw1]; simpa using heap_alloc_new (w.alloc (.cells #[.int .i64 X, .int .i64 Y, .int .i64 bw, .int .i64 bh] 25)) (.cells #[.int .i64 U, .int .i64 V, .int .i64 p, .int .i64 q] 25)
  rw [← hw1]
  clear hw1
  obtain ⟨⟨j0, j1, j2, j3⟩, _, _, _, _⟩ := block4 q1
  obtain ⟨⟨k0, k1, k2, k3⟩, _, _, _, _⟩ := block4 q2
  clear q1 q2
  go_region_held3 (fun w' => w'.cell? ⟨w.heap.size, 0, none⟩ = some (.int .i64 X) ∧ w'.cell? ⟨w.heap.size, 1, none⟩ = some (.int .i64 Y) ∧ w'.cell? ⟨w.heap.size, 2, none⟩ = some (.int .i64 bw) ∧ w'.cell? ⟨w.heap.size, 3, none⟩ = some (.int .i64 bh) ∧
      w'.cell? ⟨w.heap.size + 1, 0, none⟩ = some (.int .i64 U) ∧ w'.cell? ⟨w.heap.size + 1, 1, none⟩ = some (.int .i64 V) ∧ w'.cell? ⟨w.heap.size + 1, 2, none⟩ = some (.int .i64 p) ∧ w'.cell? ⟨w.heap.size + 1, 3, none⟩ = some (.int .i64 q))
    (first | (go_keep; done) | (go_split_ands; exact ⟨cell_later ha (by assumption), cell_later ha (by assumption), cell_later ha (by assumption), cell_later ha (by assumption), cell_later ha (by assumption), cell_later ha (by assumption), cell_later ha (by assumption), cell_later ha (by assumption)⟩) | (go_split_ands; exact ⟨cell_later hb (by assumption), cell_later hb (by assumption), cell_later hb (by assumption), cell_later hb (by assumption), cell_later hb (by assumption), cell_later hb (by assumption), cell_later hb (by assumption), cell_later hb (by assumption)⟩) | (go_split_ands; exact ⟨cell_later hc (by assumption), cell_later hc (by assumption), cell_later hc (by assumption), cell_later hc (by assumption), cell_later hc (by assumption), cell_later hc (by assumption), cell_later hc (by assumption), cell_later hc (by assumption)⟩) | (go_split_ands; exact ⟨cell_later hd (by assumption), cell_later hd (by assumption), cell_later hd (by assumption), cell_later hd (by assumption), cell_later hd (by assumption), cell_later hd (by assumption), cell_later hd (by assumption), cell_later hd (by assumption)⟩) | (go_split_ands; exact ⟨cell_later he (by assumption), cell_later he (by assumption), cell_later he (by assumption), cell_later he (by assumption), cell_later he (by assumption), cell_later he (by assumption), cell_later he (by assumption), cell_later he (by assumption)⟩) | (go_split_ands; exact ⟨cell_later hf (by assumption), cell_later hf (by assumption), cell_later hf (by assumption), cell_later hf (by assumption), cell_later hf (by assumption), cell_later hf (by assumption), cell_later hf (by assumption), cell_later hf (by assumption)⟩))
    ((first | (go_at_call 51; ((with_reducible refine (spanC_any X Y bw bh w1.drew C1.out.1 C1.out.2).mono ?_); rintro e wa ⟨rfl, ha⟩)) | (go_at_call 51; ((with_reducible refine (spanC_any U V p q wa C2.out.1 C2.out.2).mono ?_); rintro e wb ⟨rfl, hb⟩)) | (go_at_call 59; ((with_reducible refine (apart_any X (X + bw) U (U + p) wb A1.out.1 A1.out.2).mono ?_); rintro e wc ⟨rfl, hc⟩)) | (go_at_call 52; ((with_reducible refine (spanR_any X Y bw bh wc R1.out.1 R1.out.2).mono ?_); rintro e wd ⟨rfl, hd⟩)) | (go_at_call 52; ((with_reducible refine (spanR_any U V p q wd R2.out.1 R2.out.2).mono ?_); rintro e we ⟨rfl, he⟩)) | (go_at_call 59; ((with_reducible refine (apart_any Y (Y + bh) V (V + q) we A2.out.1 A2.out.2).mono ?_); rintro e wf ⟨rfl, hf⟩))))
  have G := Lib.hid (below_step B1.out (below_step (below_step (below_step (below_step (below_step (below_step (Below.refl _ _).drew ha) hb) hc) hd) he) hf))
  clear ha hb hc hd he hf
  go_wp2_with fail
  go_ret2
  exact ⟨rfl, G.out⟩

set_option maxHeartbeats 800000 in
set_option maxRecDepth 100000 in
theorem nearR_any (X Y bw bh U V p q : Int) (w : World) (h1 : BxOK X Y bw bh) (h2 : BxOK U V p q) :
    Calls Try.prog 15 #[.agg #[.int .i64 X, .int .i64 Y, .int .i64 bw, .int .i64 bh], .agg #[.int .i64 U, .int .i64 V, .int .i64 p, .int .i64 q]] w fun e w' => e = .returned (.tuple #[.int .i64 (NearX X bw U p), .int .i64 (NearX Y bh V q)]) ∧ Below w.heap.size w w' := by
  obtain ⟨⟨⟨a1, a2⟩, a3, a4⟩, ⟨a5, a6⟩, a7, a8⟩ := h1
  obtain ⟨⟨⟨b1, b2⟩, b3, b4⟩, ⟨b5, b6⟩, b7, b8⟩ := h2
  have e1 := Lib.hid (show max 0 (max (U - X - bw) (X - U - p)) = NearX X bw U p by unfold NearX apartV; omega)
  have e2 := Lib.hid (show max 0 (max (V - Y - bh) (Y - V - q)) = NearX Y bh V q by unfold NearX apartV; omega)
  have v1 : IntKind.i64.wrap (U - X) = U - X := IntWalk.i64_in _ (by omega)
  have v2 : IntKind.i64.wrap (U - X - bw) = U - X - bw := IntWalk.i64_in _ (by omega)
  have v3 : IntKind.i64.wrap (X - U) = X - U := IntWalk.i64_in _ (by omega)
  have v4 : IntKind.i64.wrap (X - U - p) = X - U - p := IntWalk.i64_in _ (by omega)
  have v5 : IntKind.i64.wrap (V - Y) = V - Y := IntWalk.i64_in _ (by omega)
  have v6 : IntKind.i64.wrap (V - Y - bh) = V - Y - bh := IntWalk.i64_in _ (by omega)
  have v7 : IntKind.i64.wrap (Y - V) = Y - V := IntWalk.i64_in _ (by omega)
  have v8 : IntKind.i64.wrap (Y - V - q) = Y - V - q := IntWalk.i64_in _ (by omega)
  obtain ⟨w1, hw1⟩ : ∃ w1, w1 = (w.alloc (.cells #[.int .i64 X, .int .i64 Y, .int .i64 bw, .int .i64 bh] 25)).alloc (.cells #[.int .i64 U, .int .i64 V, .int .i64 p, .int .i64 q] 25) := ⟨_, rfl⟩
  have B1 := Lib.hid (show Below w.heap.size w w1 by rw [hw1]; exact below_alloc (new_below _ _) _)
  have q1 : w1.heap[w.heap.size]? = some (.cells #[.int .i64 X, .int .i64 Y, .int .i64 bw, .int .i64 bh] 25 (0, 0)) := by rw [hw1, Below.heap_alloc _ _ _ (by simp)]; exact heap_alloc_new _ _
  have q2 : w1.heap[w.heap.size + 1]? = some (.cells #[.int .i64 U, .int .i64 V, .int .i64 p, .int .i64 q] 25 (0, 0)) := by
    rw [hw1]; simpa using heap_alloc_new (w.alloc (.cells #[.int .i64 X, .int .i64 Y, .int .i64 bw, .int .i64 bh] 25)) (.cells #[.int .i64 U, .int .i64 V, .int .i64 p, .int .i64 q] 25)
  obtain ⟨⟨j0, j1, j2, j3⟩, _, _, _, _⟩ := block4 q1
  obtain ⟨⟨k0, k1, k2, k3⟩, _, _, _, _⟩ := block4 q2
  clear q1 q2
  go_enter Try.func15, Try.ntmps15
  go_wp2_with fail
  rw [← hw1]
  clear hw1
  go_quiet (fail)
  go_wp2
  go_ret2
  refine ⟨?_, below_drewN B1.out _⟩
  rw [← e1.out, ← e2.out]
  rfl

end Go.Proofs.Ytljjbdfpegjmcaa
namespace Go.Proofs.Ytljjbdfpegjmcaa
open Go.RowKit
set_option linter.unusedSimpArgs false
set_option linter.unusedVariables false

theorem far_no (n low : Int) (w : World) (h : low ≤ n ∧ n ≤ 1048576) : Calls Try.prog 49 #[.int .i64 n, .int .i64 low] w fun e w' => e = .returned (.bool false) ∧ w = w' := by
  obtain ⟨h1, h2⟩ := h
  have h3 : ¬ n < low := by omega
  have h4 : ¬ 1048576 < n := by omega
  go_enter Try.func49, Try.ntmps49
  go_wp2
  go_ret
  exact ⟨rfl, rfl⟩
theorem far_yes (n low : Int) (w : World) (h : ¬ (low ≤ n ∧ n ≤ 1048576)) : Calls Try.prog 49 #[.int .i64 n, .int .i64 low] w fun e w' => e = .returned (.bool true) ∧ w = w' := by
  by_cases h1 : n < low
  · clear h
    go_enter Try.func49, Try.ntmps49
    go_wp2
    go_ret
    exact ⟨rfl, rfl⟩
  · have h4 : 1048576 < n := by omega
    clear h
    go_enter Try.func49, Try.ntmps49
    go_wp2
    go_ret
    exact ⟨rfl, rfl⟩

set_option maxHeartbeats 800000 in
set_option maxRecDepth 100000 in
theorem boxErrR_any (X Y bw bh : Int) (w : World) : Calls Try.prog 9 #[.agg #[.int .i64 X, .int .i64 Y, .int .i64 bw, .int .i64 bh]] w fun e w' => e = .returned (.int .i64 (bxErr X Y bw bh)) ∧ Below w.heap.size w w' := by
  by_cases h1 : -1048576 ≤ X ∧ X ≤ 1048576
  · have H1 := Lib.hid h1
    by_cases h2 : -1048576 ≤ Y ∧ Y ≤ 1048576
    · have H2 := Lib.hid h2
      by_cases h3 : 1 ≤ bw ∧ bw ≤ 1048576
      · have H3 := Lib.hid h3
        by_cases h4 : 1 ≤ bh ∧ bh ≤ 1048576
        · have H4 := Lib.hid h4
          have HE := Lib.hid (show bxErr X Y bw bh = whenI false 3 by unfold bxErr; rw [if_pos ⟨⟨h1, h2⟩, h3, h4⟩]; rfl)
          clear h1 h2 h3 h4
          go_enter Try.func9, Try.ntmps9
          go_wp2_with (first | (go_at_call 49; (with_reducible refine (far_no X (-1048576) _ H1.out).mono ?_); rintro e w' ⟨rfl, rfl⟩) | (go_at_call 49; (with_reducible refine (far_no Y (-1048576) _ H2.out).mono ?_); rintro e w' ⟨rfl, rfl⟩) | (go_at_call 49; (with_reducible refine (far_no bw 1 _ H3.out).mono ?_); rintro e w' ⟨rfl, rfl⟩) | (go_at_call 49; (with_reducible refine (far_no bh 1 _ H4.out).mono ?_); rintro e w' ⟨rfl, rfl⟩) | (go_at_call 21; refine (when_any _ _ _).mono ?_; rintro e w' ⟨rfl, rfl⟩))
          go_ret
          exact ⟨ret_int HE.out.symm, new_below _ _⟩
        · have H4 := Lib.hid h4
          have HE := Lib.hid (show bxErr X Y bw bh = whenI true 3 by unfold bxErr; rw [if_neg (fun h => h4 h.2.2)]; rfl)
          clear h1 h2 h3 h4
          go_enter Try.func9, Try.ntmps9
          go_wp2_with (first | (go_at_call 49; (with_reducible refine (far_no X (-1048576) _ H1.out).mono ?_); rintro e w' ⟨rfl, rfl⟩) | (go_at_call 49; (with_reducible refine (far_no Y (-1048576) _ H2.out).mono ?_); rintro e w' ⟨rfl, rfl⟩) | (go_at_call 49; (with_reducible refine (far_no bw 1 _ H3.out).mono ?_); rintro e w' ⟨rfl, rfl⟩) | (go_at_call 49; (with_reducible refine (far_yes bh 1 _ H4.out).mono ?_); rintro e w' ⟨rfl, rfl⟩) | (go_at_call 21; refine (when_any _ _ _).mono ?_; rintro e w' ⟨rfl, rfl⟩))
          go_ret
          exact ⟨ret_int HE.out.symm, new_below _ _⟩
      · have H3 := Lib.hid h3
        have HE := Lib.hid (show bxErr X Y bw bh = whenI true 3 by unfold bxErr; rw [if_neg (fun h => h3 h.2.1)]; rfl)
        clear h1 h2 h3
        go_enter Try.func9, Try.ntmps9
        go_wp2_with (first | (go_at_call 49; (with_reducible refine (far_no X (-1048576) _ H1.out).mono ?_); rintro e w' ⟨rfl, rfl⟩) | (go_at_call 49; (with_reducible refine (far_no Y (-1048576) _ H2.out).mono ?_); rintro e w' ⟨rfl, rfl⟩) | (go_at_call 49; (with_reducible refine (far_yes bw 1 _ H3.out).mono ?_); rintro e w' ⟨rfl, rfl⟩) | (go_at_call 21; refine (when_any _ _ _).mono ?_; rintro e w' ⟨rfl, rfl⟩))
        go_ret
        exact ⟨ret_int HE.out.symm, new_below _ _⟩
    · have H2 := Lib.hid h2
      have HE := Lib.hid (show bxErr X Y bw bh = whenI true 3 by unfold bxErr; rw [if_neg (fun h => h2 h.1.2)]; rfl)
      clear h1 h2
      go_enter Try.func9, Try.ntmps9
      go_wp2_with (first | (go_at_call 49; (with_reducible refine (far_no X (-1048576) _ H1.out).mono ?_); rintro e w' ⟨rfl, rfl⟩) | (go_at_call 49; (with_reducible refine (far_yes Y (-1048576) _ H2.out).mono ?_); rintro e w' ⟨rfl, rfl⟩) | (go_at_call 21; refine (when_any _ _ _).mono ?_; rintro e w' ⟨rfl, rfl⟩))
      go_ret
      exact ⟨ret_int HE.out.symm, new_below _ _⟩
  · have H1 := Lib.hid h1
    have HE := Lib.hid (show bxErr X Y bw bh = whenI true 3 by unfold bxErr; rw [if_neg (fun h => h1 h.1.1)]; rfl)
    clear h1
    go_enter Try.func9, Try.ntmps9
    go_wp2_with (first | (go_at_call 49; (with_reducible refine (far_yes X (-1048576) _ H1.out).mono ?_); rintro e w' ⟨rfl, rfl⟩) | (go_at_call 21; refine (when_any _ _ _).mono ?_; rintro e w' ⟨rfl, rfl⟩))
    go_ret
    exact ⟨ret_int HE.out.symm, new_below _ _⟩

/-- Four numbers. -/
structure Bx where
  x : Int
  y : Int
  w : Int
  h : Int
def Bx.err (b : Bx) : Int := bxErr b.x b.y b.w b.h
/-- The boxes of a slice, cell by cell. -/
def BoxesAt (w : World) (g o n : Nat) (B : Nat → Bx) : Prop :=
  ∀ i, i < n → (w.cell? ⟨g, o + i * 4, none⟩ = some (.int .i64 (B i).x) ∧ w.cell? ⟨g, o + i * 4 + 1, none⟩ = some (.int .i64 (B i).y)) ∧ (w.cell? ⟨g, o + i * 4 + 2, none⟩ = some (.int .i64 (B i).w) ∧ w.cell? ⟨g, o + i * 4 + 3, none⟩ = some (.int .i64 (B i).h))

theorem BoxesAt.later {w w' : World} {g o n : Nat} {B : Nat → Bx} (h : BoxesAt w g o n B) (hb : Below w.heap.size w w') : BoxesAt w' g o n B := fun i hi =>
  ⟨⟨cell_later hb (h i hi).1.1, cell_later hb (h i hi).1.2⟩, cell_later hb (h i hi).2.1, cell_later hb (h i hi).2.2⟩

/-- The first error of the boxes from k on. -/
def firstErr (B : Nat → Bx) : Nat → Int
  | 0 => 0
  | n + 1 => if firstErr B n = 0 then (B n).err else firstErr B n
/-- The error of a list of boxes. -/
def listErr (B : Nat → Bx) (n : Nat) : Int := if 5000 < n then 4 else firstErr B n

theorem firstErr_later {B : Nat → Bx} {n m : Nat} (h : firstErr B n ≠ 0) (hm : n ≤ m) : firstErr B m = firstErr B n := by
  induction m with
  | zero => rw [show n = 0 by omega]
  | succ m ih =>
    rcases Nat.lt_or_eq_of_le hm with h1 | h1
    · rw [firstErr, ih (by omega), if_neg h]
    · rw [h1]

set_option maxHeartbeats 800000 in
set_option maxRecDepth 100000 in
theorem checkBoxes_any (n g o c : Nat) (B : Nat → Bx) (w : World) (hn : n ≤ 100000) (hB : BoxesAt w g o n B) :
    Calls Try.prog 50 #[.slice (some ⟨g, o, none⟩) n c] w fun e w' => e = .returned (.int .i64 (listErr B n)) ∧ Below w.heap.size w w' := by
  by_cases h5 : 5000 < n
  · have HE := Lib.hid (show listErr B n = 4 by unfold listErr; rw [if_pos h5])
    have i1 : (5000 : Int) < (n : Int) := by omega
    go_enter Try.func50, Try.ntmps50
    go_wp2_with fail
    go_ret
    exact ⟨ret_int HE.out.symm, Below.refl _ _⟩
  · have HE := Lib.hid (show listErr B n = firstErr B n by unfold listErr; rw [if_neg h5])
    have i1 : ¬ (5000 : Int) < (n : Int) := by omega
    have HB := Lib.hid hB
    clear hB h5
    go_enter Try.func50, Try.ntmps50
    go_wp2_with fail
    go_loopw [11] (fun i wr => ∃ k : Nat, k ≤ n ∧ i = .int .i64 k ∧ Hid (firstErr B k = 0 ∧ Below w.heap.size w wr)) (fun i _ => n - (intOf i).toNat)
    case atStart => exact ⟨0, Nat.zero_le _, rfl, Lib.hid ⟨rfl, Below.refl _ _⟩⟩
    case round =>
      obtain ⟨k, hk, rfl, HR⟩ := hrel
      by_cases hlt : k < n
      · obtain ⟨⟨c0, c1⟩, c2, c3⟩ := HB.out.later HR.out.2 k hlt
        have j1 : (k : Int) < (n : Int) := by omega
        obtain ⟨X, hX⟩ : ∃ X, X = (B k).x := ⟨_, rfl⟩
        obtain ⟨Y, hY⟩ : ∃ Y, Y = (B k).y := ⟨_, rfl⟩
        obtain ⟨P, hP⟩ : ∃ P, P = (B k).w := ⟨_, rfl⟩
        obtain ⟨Q, hQ⟩ : ∃ Q, Q = (B k).h := ⟨_, rfl⟩
        rw [← hX] at c0
        rw [← hY] at c1
        rw [← hP] at c2
        rw [← hQ] at c3
        have HK := Lib.hid (show bxErr X Y P Q = (B k).err by rw [hX, hY, hP, hQ]; rfl)
        clear hX hY hP hQ
        go_wp2_with fail
        have B2 := Lib.hid (show Below w.heap.size w (wr.alloc (.cells #[.int .i64 X, .int .i64 Y, .int .i64 P, .int .i64 Q] 25)) from below_alloc HR.out.2 _)
        refine (checkBox_any X Y P Q _).mono ?_
        rintro e w2 ⟨rfl, hb2⟩
        have G := Lib.hid (below_step B2.out hb2)
        clear hb2 c0 c1 c2 c3
        obtain ⟨E, hE⟩ : ∃ E, E = bxErr X Y P Q := ⟨_, rfl⟩
        rw [← hE]
        have HX := Lib.hid (show (B k).err = E by rw [hE]; exact HK.out.symm)
        clear hE
        by_cases h0 : E = 0
        · have t1 : (E != 0) = false := by simpa using h0
          have hz : firstErr B (k + 1) = 0 := by rw [firstErr, if_pos HR.out.1, HX.out]; exact h0
          have HZ := Lib.hid hz
          clear h0 hz
          go_wp2_with fail
          go_roundw
          case rel => exact ⟨k + 1, by omega, by go_num, Lib.hid ⟨HZ.out, G.out⟩⟩
          case measure => simp [intOf]; omega
        · have t1 : (E != 0) = true := by simpa using h0
          have hz : firstErr B n = E := by
            have h1 : firstErr B (k + 1) = E := by rw [firstErr, if_pos HR.out.1, HX.out]
            rw [firstErr_later (by rw [h1]; exact h0) (show k + 1 ≤ n by omega), h1]
          have HZ := Lib.hid hz
          clear h0 hz
          go_wp2_with fail
          go_ret
          exact ⟨ret_int (by rw [HE.out, HZ.out]), G.out⟩
      · obtain rfl : k = n := by omega
        go_wp2_with fail
        go_ret
        exact ⟨ret_int (by rw [HE.out, HR.out.1]), HR.out.2⟩

set_option maxHeartbeats 800000 in
set_option maxRecDepth 100000 in
theorem boxesErrR_any (n g o c : Nat) (B : Nat → Bx) (w : World) (hn : n ≤ 100000) (hB : BoxesAt w g o n B) :
    Calls Try.prog 10 #[.slice (some ⟨g, o, none⟩) n c] w fun e w' => e = .returned (.int .i64 (listErr B n)) ∧ Below w.heap.size w w' := by
  by_cases h5 : 5000 < n
  · have HE := Lib.hid (show listErr B n = 4 by unfold listErr; rw [if_pos h5])
    have i1 : (5000 : Int) < (n : Int) := by omega
    go_enter Try.func10, Try.ntmps10
    go_wp2_with fail
    go_ret
    exact ⟨ret_int HE.out.symm, Below.refl _ _⟩
  · have HE := Lib.hid (show listErr B n = firstErr B n by unfold listErr; rw [if_neg h5])
    have i1 : ¬ (5000 : Int) < (n : Int) := by omega
    have HB := Lib.hid hB
    clear hB h5
    go_enter Try.func10, Try.ntmps10
    go_wp2_with fail
    go_loopw [11] (fun i wr => ∃ k : Nat, k ≤ n ∧ i = .int .i64 k ∧ Hid (firstErr B k = 0 ∧ Below w.heap.size w wr)) (fun i _ => n - (intOf i).toNat)
    case atStart => exact ⟨0, Nat.zero_le _, rfl, Lib.hid ⟨rfl, Below.refl _ _⟩⟩
    case round =>
      obtain ⟨k, hk, rfl, HR⟩ := hrel
      by_cases hlt : k < n
      · obtain ⟨⟨c0, c1⟩, c2, c3⟩ := HB.out.later HR.out.2 k hlt
        have j1 : (k : Int) < (n : Int) := by omega
        obtain ⟨X, hX⟩ : ∃ X, X = (B k).x := ⟨_, rfl⟩
        obtain ⟨Y, hY⟩ : ∃ Y, Y = (B k).y := ⟨_, rfl⟩
        obtain ⟨P, hP⟩ : ∃ P, P = (B k).w := ⟨_, rfl⟩
        obtain ⟨Q, hQ⟩ : ∃ Q, Q = (B k).h := ⟨_, rfl⟩
        rw [← hX] at c0
        rw [← hY] at c1
        rw [← hP] at c2
        rw [← hQ] at c3
        have HK := Lib.hid (show bxErr X Y P Q = (B k).err by rw [hX, hY, hP, hQ]; rfl)
        clear hX hY hP hQ
        go_wp2_with fail
        have B2 := Lib.hid (show Below w.heap.size w (wr.alloc (.cells #[.int .i64 X, .int .i64 Y, .int .i64 P, .int .i64 Q] 25)) from below_alloc HR.out.2 _)
        refine (boxErrR_any X Y P Q _).mono ?_
        rintro e w2 ⟨rfl, hb2⟩
        have G := Lib.hid (below_step B2.out hb2)
        clear hb2 c0 c1 c2 c3
        obtain ⟨E, hE⟩ : ∃ E, E = bxErr X Y P Q := ⟨_, rfl⟩
        rw [← hE]
        have HX := Lib.hid (show (B k).err = E by rw [hE]; exact HK.out.symm)
        clear hE
        by_cases h0 : E = 0
        · have t1 : (E != 0) = false := by simpa using h0
          have hz : firstErr B (k + 1) = 0 := by rw [firstErr, if_pos HR.out.1, HX.out]; exact h0
          have HZ := Lib.hid hz
          clear h0 hz
          go_wp2_with fail
          go_roundw
          case rel => exact ⟨k + 1, by omega, by go_num, Lib.hid ⟨HZ.out, G.out⟩⟩
          case measure => simp [intOf]; omega
        · have t1 : (E != 0) = true := by simpa using h0
          have hz : firstErr B n = E := by
            have h1 : firstErr B (k + 1) = E := by rw [firstErr, if_pos HR.out.1, HX.out]
            rw [firstErr_later (by rw [h1]; exact h0) (show k + 1 ≤ n by omega), h1]
          have HZ := Lib.hid hz
          clear h0 hz
          go_wp2_with fail
          go_ret
          exact ⟨ret_int (by rw [HE.out, HZ.out]), G.out⟩
      · obtain rfl : k = n := by omega
        go_wp2_with fail
        go_ret
        exact ⟨ret_int (by rw [HE.out, HR.out.1]), HR.out.2⟩

end Go.Proofs.Ytljjbdfpegjmcaa
namespace Go.Proofs.Ytljjbdfpegjmcaa
open Go.RowKit
set_option linter.unusedSimpArgs false
set_option linter.unusedVariables false

def countTo (m j : Nat) : Nat := if j < m then j else 0

set_option maxHeartbeats 800000 in
set_option maxRecDepth 100000 in
theorem numbers_any (n : Nat) (w : World) (hn : n ≤ 100000) :
    Calls Try.prog 56 #[.int .i64 n] w fun e w' => ∃ v, e = .returned v ∧ w'.ownsRow w.heap.size 3 1 v n (numsOf (fun k => k) n) ∧ Below w.heap.size w w' := by
  obtain ⟨i0, hi, hz0, hz1, hz2⟩ := info_parts info_int
  go_enter Try.func56, Try.ntmps56
  go_wp2_with (at_make; refine wpList_make_full _ rfl _ _ 38 rfl (w.heap.size) 3 i0 (.int .i64 0) 1 Try.underlying38 hi hz0 hz1 _ _ _ _ n rfl rfl rfl rfl (by rw [hz2]; omega) (by unfold maxLen; omega) (by simp) ?_)
  intro w1 hown1 hgrow1
  rw [toList_madeCells_one, numsOf_zero] at hown1
  have hb1 := (Below.refl (w.heap.size) _).grown hgrow1 (by simp) (by simp)
  have R0 := Lib.hid (show w1.ownsRow w.heap.size 3 1 (.slice (some ⟨w.heap.size, 0, none⟩) n n) n (numsOf (countTo 0) n) ∧ Below w.heap.size w w1 from ⟨by
    rw [numsOf_congr (g := fun _ => 0) (fun j _ => by unfold countTo; rw [if_neg (by omega)])]; exact hown1, hb1⟩)
  clear hown1 hgrow1 hb1
  go_wp2_with fail
  go_loopw [9] (fun i wr => ∃ k : Nat, k ≤ n ∧ i = .int .i64 k ∧ Hid (wr.ownsRow w.heap.size 3 1 (.slice (some ⟨w.heap.size, 0, none⟩) n n) n (numsOf (countTo k) n) ∧ Below w.heap.size w wr)) (fun i _ => n - (intOf i).toNat)
  case atStart => exact ⟨0, Nat.zero_le _, rfl, R0⟩
  case round =>
    obtain ⟨k, hk, rfl, HR⟩ := hrel
    clear R0
    by_cases hlt : k < n
    · have i1 : (k : Int) < (n : Int) := by omega
      have ht := HR.out.1.cellAt k (by omega)
      rw [numsOf_get _ _ _ hlt, show countTo k k = 0 by unfold countTo; rw [if_neg (by omega)]] at ht
      have hfz := HR.out.1.frozenAt k
      go_wp2_with fail
      go_roundw
      case rel => exact ⟨k + 1, by omega, by go_num, Lib.hid ⟨by
        have := (HR.out.1.stored k (.int .i64 ((k : Nat) : Int))).1
        rw [numsOf_set (g := countTo (k + 1)) hlt (by unfold countTo; rw [if_pos (by omega)]) (fun i hi hne => by
          unfold countTo
          by_cases e : i < k
          · rw [if_pos e, if_pos (by omega)]
          · rw [if_neg e, if_neg (by omega)])] at this
        exact this, HR.out.2.setCell (Nat.le_refl _) _⟩⟩
      case measure => simp [intOf]; omega
    · obtain rfl : k = n := by omega
      go_wp2_with fail
      go_ret
      exact ⟨_, rfl, by
        have := HR.out.1
        rw [numsOf_congr (g := fun k => k) (fun j hj => by unfold countTo; rw [if_pos hj])] at this
        exact this, HR.out.2⟩

def Bx.OK (b : Bx) : Prop := BxOK b.x b.y b.w b.h
/-- Whether two boxes are close. -/
def closeB (B : Nat → Bx) (dx dy : Int) (i j : Nat) : Bool := decide (NearX (B i).x (B i).w (B j).x (B j).w ≤ dx) && decide (NearX (B i).y (B i).h (B j).y (B j).h ≤ dy)

set_option maxHeartbeats 800000 in
set_option maxRecDepth 100000 in
theorem isClose_any (i j n g o c lb xb yb : Nat) (dx dy : Int) (B : Nat → Bx) (w : World) (hi : i < n) (hj : j < n) (hn : n ≤ 100000) (hI : (B i).OK) (hJ : (B j).OK)
    (h0 : w.cell? ⟨lb, 0, none⟩ = some (.slice (some ⟨g, o, none⟩) n c)) (h1 : w.cell? ⟨xb, 0, none⟩ = some (.int .i64 dx)) (h2 : w.cell? ⟨yb, 0, none⟩ = some (.int .i64 dy)) (hB : BoxesAt w g o n B) :
    Calls Try.prog 55 #[.int .i64 i, .int .i64 j, .pointer (some ⟨lb, 0, none⟩), .pointer (some ⟨xb, 0, none⟩), .pointer (some ⟨yb, 0, none⟩)] w fun e w' => e = .returned (.bool (closeB B dx dy i j)) ∧ Below w.heap.size w w' := by
  obtain ⟨⟨c0, c1⟩, c2, c3⟩ := hB i hi
  obtain ⟨⟨d0, d1⟩, d2, d3⟩ := hB j hj
  have i1 : (i : Int) < (n : Int) := by omega
  have i2 : (j : Int) < (n : Int) := by omega
  have H1 := Lib.hid h1
  have H2 := Lib.hid h2
  have HN := Lib.hid (fun w => near_any (B i).x (B i).y (B i).w (B i).h (B j).x (B j).y (B j).w (B j).h w hI hJ)
  obtain ⟨NX, hNX⟩ : ∃ NX, NX = NearX (B i).x (B i).w (B j).x (B j).w := ⟨_, rfl⟩
  obtain ⟨NY, hNY⟩ : ∃ NY, NY = NearX (B i).y (B i).h (B j).y (B j).h := ⟨_, rfl⟩
  have hcl : closeB B dx dy i j = (decide (NX ≤ dx) && decide (NY ≤ dy)) := by unfold closeB; rw [← hNX, ← hNY]
  rw [← hNX, ← hNY] at HN
  rw [hcl]
  generalize B i = b1 at *
  generalize B j = b2 at *
  obtain ⟨X, Y, P, Q⟩ := b1
  obtain ⟨U, V, R, S⟩ := b2
  clear hB h1 h2 hI hJ hNX hNY hcl
  go_enter Try.func55, Try.ntmps55
  go_wp2_with fail
  go_region_held3 (fun w' => w'.cell? ⟨lb, 0, none⟩ = some (.slice (some ⟨g, o, none⟩) n c) ∧
      w'.cell? ⟨g, o + i * 4, none⟩ = some (.int .i64 X) ∧ w'.cell? ⟨g, o + i * 4 + 1, none⟩ = some (.int .i64 Y) ∧ w'.cell? ⟨g, o + i * 4 + 2, none⟩ = some (.int .i64 P) ∧ w'.cell? ⟨g, o + i * 4 + 3, none⟩ = some (.int .i64 Q) ∧
      w'.cell? ⟨g, o + j * 4, none⟩ = some (.int .i64 U) ∧ w'.cell? ⟨g, o + j * 4 + 1, none⟩ = some (.int .i64 V) ∧ w'.cell? ⟨g, o + j * 4 + 2, none⟩ = some (.int .i64 R) ∧ w'.cell? ⟨g, o + j * 4 + 3, none⟩ = some (.int .i64 S))
    (first | (go_keep; done) | (go_split_ands; exact ⟨cell_later hb6 (by assumption), cell_later hb6 (by assumption), cell_later hb6 (by assumption), cell_later hb6 (by assumption), cell_later hb6 (by assumption), cell_later hb6 (by assumption), cell_later hb6 (by assumption), cell_later hb6 (by assumption), cell_later hb6 (by assumption)⟩))
    ((first | (go_at_call 14; ((with_reducible refine (HN.out w.drew).mono ?_); rintro e w6 ⟨rfl, hb6⟩))))
  have x1 := cell_later (below_step (Below.refl _ _).drew hb6) H1.out
  have x2 := cell_later (below_step (Below.refl _ _).drew hb6) H2.out
  have G := Lib.hid (below_step (Below.refl _ _).drew hb6)
  clear hb6 c0 c1 c2 c3 d0 d1 d2 d3
  by_cases hx : NX ≤ dx
  · go_wp2_with fail
    go_ret
    exact ⟨ret_bool (by rw [decide_eq_true hx]; rfl), G.out⟩
  · go_wp2_with fail
    go_ret
    exact ⟨ret_bool (by rw [decide_eq_false (show ¬ NX ≤ dx by omega)]; rfl), G.out⟩

end Go.Proofs.Ytljjbdfpegjmcaa
namespace Go.Proofs.Ytljjbdfpegjmcaa
open Go.RowKit
set_option linter.unusedSimpArgs false
set_option linter.unusedVariables false

/-- From where to where the boxes up to k reach, the first one too. -/
def hullX (B : Nat → Bx) : Nat → Int × Int
  | 0 => ((B 0).x, (B 0).x + (B 0).w)
  | k + 1 => (min (hullX B k).1 (B k).x, max (hullX B k).2 ((B k).x + (B k).w))
def hullY (B : Nat → Bx) : Nat → Int × Int
  | 0 => ((B 0).y, (B 0).y + (B 0).h)
  | k + 1 => (min (hullY B k).1 (B k).y, max (hullY B k).2 ((B k).y + (B k).h))

theorem hullX_ok {B : Nat → Bx} {n : Nat} (hn : 1 ≤ n) (h : ∀ i, i < n → (B i).OK) (k : Nat) (hk : k ≤ n) : (-1048576 ≤ (hullX B k).1 ∧ (hullX B k).1 ≤ 1048576) ∧ (hullX B k).1 < (hullX B k).2 ∧ (hullX B k).2 ≤ 2097152 := by
  induction k with
  | zero => have := h 0 (by omega); unfold Bx.OK BxOK at this; simp only [hullX]; omega
  | succ k ih =>
    have h1 := ih (by omega)
    have h2 := h k (by omega)
    unfold Bx.OK BxOK at h2
    simp only [hullX]
    omega
theorem hullY_ok {B : Nat → Bx} {n : Nat} (hn : 1 ≤ n) (h : ∀ i, i < n → (B i).OK) (k : Nat) (hk : k ≤ n) : (-1048576 ≤ (hullY B k).1 ∧ (hullY B k).1 ≤ 1048576) ∧ (hullY B k).1 < (hullY B k).2 ∧ (hullY B k).2 ≤ 2097152 := by
  induction k with
  | zero => have := h 0 (by omega); unfold Bx.OK BxOK at this; simp only [hullY]; omega
  | succ k ih =>
    have h1 := ih (by omega)
    have h2 := h k (by omega)
    unfold Bx.OK BxOK at h2
    simp only [hullY]
    omega

theorem over_any (a b c d : Int) (w : World) : Calls Try.prog 53 #[.agg #[.int .i64 a, .int .i64 b], .agg #[.int .i64 c, .int .i64 d]] w fun e w' => e = .returned (.agg #[.int .i64 (min a c), .int .i64 (max b d)]) ∧ Below w.heap.size w w' := by
  go_enter Try.func53, Try.ntmps53
  go_wp2_with fail
  exact bodyPost_ret (v := .agg #[.int .i64 (min a c), .int .i64 (max b d)]) (by simp [results, Try.results53, go_sem]) rfl ⟨rfl, by first | exact below_two (below_alloc (below_alloc (new_below _ _) _) _) (by simp) | exact below_alloc (below_alloc (new_below _ _) _) _⟩

end Go.Proofs.Ytljjbdfpegjmcaa
