/-
  What votes_holds leans on: contracts of the functions that it calls.
-/
import Derived.Test.YtmloidgeolgpdaaDoorRows
import Derived.WalkKit
import Derived.WalkSpells
import Derived.WalkLawsBesides
import Derived.Lib.Hide
import Derived.Deep.RegionHeld3
import Derived.Shelf.Abstract
import Derived.ProofKit
import Derived.OpenShut
import Derived.ShutString
import Derived.ChangeOld
import Derived.Lib.SmallJoins
import Derived.Deep.Grids
import Derived.Maps.OwnOps
import Derived.Maps.OwnSet
import Derived.DeepKeys4
import Derived.Deep.OwnRows
import Derived.Deep.CutBlock
import Derived.Lib.MinMax
import Derived.Deep.QuietTactic
import Derived.BigQuiet
import Derived.Deep.CutRange
import Derived.Deep.DeepCutAuto
import Derived.Laws.EntriesVeiled
import Derived.StillTailTactics
import Derived.Lib.Bytealg
import Derived.Lib.Small
import Derived.Sort.Grow
import Derived.Shelf.Strings.SlTrimAscii
import Derived.Shelf.Small.Strs
import Derived.Shelf.Small.Wraps
import Derived.Shelf.SlicesQ.Equal
import Derived.Ground.SlgqProg
import Derived.Shelf.SlicesQ.IndexFunc
import Derived.Ground.SlgfProg
import Derived.Test.YtmloidgeolgpdaaDoorProg
namespace Go.Proofs.YtmloidgeolgpdaaDoor
open Go.RowKit
set_option linter.unusedSimpArgs false
set_option linter.unusedVariables false

theorem ret_int {k : IntKind} {a b : Int} (h : a = b) : Ending.returned (.int k a) = .returned (.int k b) := by rw [h]
theorem ret_bool {a b : Bool} (h : a = b) : Ending.returned (.bool a) = .returned (.bool b) := by rw [h]

/-- 'e, if c, else no error'. -/
def whenI (c : Bool) (e : Int) : Int := if c then e else 0

theorem when_any (c : Bool) (e : Int) (w : World) : Calls Tryd.prog 6 #[.bool c, .int .i64 e] w fun r w' => r = .returned (.int .i64 (whenI c e)) ∧ w = w' := by
  cases c
  · go_enter Tryd.func6, Tryd.ntmps6
    go_wp2
    go_ret
    exact ⟨rfl, rfl⟩
  · go_enter Tryd.func6, Tryd.ntmps6
    go_wp2
    go_ret
    exact ⟨rfl, rfl⟩

theorem in_any (n a b : Int) (w : World) : Calls Tryd.prog 38 #[.int .i64 n, .int .i64 a, .int .i64 b] w fun r w' => r = .returned (.bool (decide (a ≤ n ∧ n ≤ b))) ∧ w = w' := by
  by_cases h : a ≤ n
  · go_enter Tryd.func38, Tryd.ntmps38
    go_wp2
    go_ret
    exact ⟨ret_bool (by simp [h]), rfl⟩
  · go_enter Tryd.func38, Tryd.ntmps38
    go_wp2
    go_ret
    exact ⟨ret_bool (by simp; omega), rfl⟩

theorem in_yes (n a b : Int) (w : World) (h : a ≤ n ∧ n ≤ b) : Calls Tryd.prog 38 #[.int .i64 n, .int .i64 a, .int .i64 b] w fun r w' => r = .returned (.bool true) ∧ w = w' :=
  (in_any n a b w).mono fun _ _ ⟨h1, h2⟩ => ⟨by rw [h1, decide_eq_true h], h2⟩
theorem in_no (n a b : Int) (w : World) (h : ¬ (a ≤ n ∧ n ≤ b)) : Calls Tryd.prog 38 #[.int .i64 n, .int .i64 a, .int .i64 b] w fun r w' => r = .returned (.bool false) ∧ w = w' :=
  (in_any n a b w).mono fun _ _ ⟨h1, h2⟩ => ⟨by rw [h1, decide_eq_false h], h2⟩

theorem outside_no (n a b : Int) (w : World) (h : a ≤ n ∧ n ≤ b) : Calls Tryd.prog 59 #[.int .i64 n, .int .i64 a, .int .i64 b] w fun r w' => r = .returned (.bool false) ∧ w = w' := by
  obtain ⟨h1, h2⟩ := h
  have h3 : ¬ n < a := by omega
  have h4 : ¬ b < n := by omega
  go_enter Tryd.func59, Tryd.ntmps59
  go_wp2
  go_ret
  exact ⟨rfl, rfl⟩
theorem outside_yes (n a b : Int) (w : World) (h : ¬ (a ≤ n ∧ n ≤ b)) : Calls Tryd.prog 59 #[.int .i64 n, .int .i64 a, .int .i64 b] w fun r w' => r = .returned (.bool true) ∧ w = w' := by
  by_cases h1 : n < a
  · clear h
    go_enter Tryd.func59, Tryd.ntmps59
    go_wp2
    go_ret
    exact ⟨rfl, rfl⟩
  · have h4 : b < n := by omega
    clear h
    go_enter Tryd.func59, Tryd.ntmps59
    go_wp2
    go_ret
    exact ⟨rfl, rfl⟩
/-- The first that is not 0. -/
def firstOf : List Int → Int
  | [] => 0
  | e :: r => if e = 0 then firstOf r else e

theorem firstOf_drop (xs : List Int) (k : Nat) (hk : k < xs.length) : firstOf (xs.drop k) = if xs.getD k 0 = 0 then firstOf (xs.drop (k + 1)) else xs.getD k 0 := by
  rw [List.drop_eq_getElem_cons hk]
  simp [firstOf, List.getD_eq_getElem?_getD, List.getElem?_eq_getElem hk]

end Go.Proofs.YtmloidgeolgpdaaDoor
namespace Go.Proofs.YtmloidgeolgpdaaDoor
open Go.RowKit
set_option linter.unusedSimpArgs false
set_option linter.unusedVariables false

theorem new_below (w : World) (o : Obj) : Below w.heap.size w (w.alloc o) := (Below.refl _ _).alloc (Nat.le_refl _) _
theorem below_step {w a b : World} (h : Below w.heap.size w a) (k : Below a.heap.size a b) : Below w.heap.size w b := h.trans (k.mono h.size)
theorem below_alloc {w a : World} (h : Below w.heap.size w a) (o : Obj) : Below w.heap.size w (a.alloc o) := h.alloc h.size o

end Go.Proofs.YtmloidgeolgpdaaDoor
namespace Go.Proofs.YtmloidgeolgpdaaDoor
open Go.RowKit
set_option linter.unusedSimpArgs false
set_option linter.unusedVariables false

/-- The first n places of a page that is w wide, row by row. -/
def places {α : Type} (w : Nat) (f : Nat → Nat → α) (n : Nat) : List α := (List.range n).map fun k => f (k % w) (k / w)

theorem below_owns {w w' : World} {base : Nat} {e : TypeId} {size : Nat} {v : Value} {n : Nat} {xs : List Value} (h : w.ownsRow base e size v n xs) (hb : Below w.heap.size w w') : w'.ownsRow base e size v n xs :=
  h.kept (row := none) ⟨hb.os, hb.tape, hb.output, hb.size, fun k hk _ => hb.block k hk⟩ (by cases v.ownBlock <;> simp)

theorem below_drewN {B : Nat} {a w : World} (h : Below B a w) (q : Nat) : Below B a (w.drewN q) := ⟨h.os, h.tape, h.output, h.size, h.block⟩

theorem below_block {w w' : World} {b : Nat} {o : Obj} (hb : Below w.heap.size w w') (h : w.heap[b]? = some o) : w'.heap[b]? = some o :=
  (hb.block b (Array.getElem?_eq_some_iff.1 h).1).trans h
end Go.Proofs.YtmloidgeolgpdaaDoor
namespace Go.Proofs.YtmloidgeolgpdaaDoor
open Go.ChangeShapes Go.WideShapes Go.ChangeAt Go.RowKit Go.Joins
open Go.ChangeMaps (open_string shut_string)
set_option linter.unusedVariables false

theorem own : ownKnob Tryd.prog.godebug = none := by kernel_rfl
theorem laidOut : laidOutB Tryd.prog = true := by kernel_rfl
end Go.Proofs.YtmloidgeolgpdaaDoor
namespace Go.Proofs.YtmloidgeolgpdaaDoor
open Go.RowKit
set_option linter.unusedSimpArgs false
set_option linter.unusedVariables false

/-- A code. -/
structure Cd where
  k : Int
  t : ByteArray
  x : Int
  y : Int
  w : Int
  c : Int
instance : Inhabited Cd := ⟨⟨0, ⟨#[]⟩, 0, 0, 0, 0⟩⟩
def cdV (b : Cd) : List Value := [.int .i64 b.k, .string b.t, .int .i64 b.x, .int .i64 b.y, .int .i64 b.w, .int .i64 b.c]
/-- The cells of a code at a place. -/
def CodeAt (w : World) (g o : Nat) (b : Cd) : Prop :=
  w.cell? ⟨g, o, none⟩ = some (.int .i64 b.k) ∧ w.cell? ⟨g, o + 1, none⟩ = some (.string b.t) ∧ w.cell? ⟨g, o + 2, none⟩ = some (.int .i64 b.x) ∧ w.cell? ⟨g, o + 3, none⟩ = some (.int .i64 b.y) ∧ w.cell? ⟨g, o + 4, none⟩ = some (.int .i64 b.w) ∧ w.cell? ⟨g, o + 5, none⟩ = some (.int .i64 b.c)
theorem CodeAt.later {w w' : World} {g o : Nat} {b : Cd} (h : CodeAt w g o b) (hb : Below w.heap.size w w') : CodeAt w' g o b :=
  ⟨cell_later hb h.1, cell_later hb h.2.1, cell_later hb h.2.2.1, cell_later hb h.2.2.2.1, cell_later hb h.2.2.2.2.1, cell_later hb h.2.2.2.2.2⟩
def CodesAt (w : World) (g o n : Nat) (B : Nat → Cd) : Prop := ∀ i, i < n → CodeAt w g (o + i * 6) (B i)
theorem CodesAt.later {w w' : World} {g o n : Nat} {B : Nat → Cd} (h : CodesAt w g o n B) (hb : Below w.heap.size w w') : CodesAt w' g o n B := fun i hi => (h i hi).later hb

def rngOk (b : Cd) : Prop := (0 ≤ b.x ∧ b.x ≤ 4000) ∧ (0 ≤ b.y ∧ b.y ≤ 4000) ∧ (0 ≤ b.w ∧ b.w ≤ 4000) ∧ (1 ≤ b.c ∧ b.c ≤ 1000000)
instance (b : Cd) : Decidable (rngOk b) := by unfold rngOk; infer_instance
def cdErr (b : Cd) : Int := if b.k = 1 ∨ b.k = 2 then (if rngOk b then 0 else 3) else 1
def cdFirst (B : Nat → Cd) : Nat → Int
  | 0 => 0
  | n + 1 => if cdFirst B n = 0 then cdErr (B n) else cdFirst B n
def voErr (B : Nat → Cd) (n : Nat) : Int := if cdFirst B n = 0 then (if 10000 < n then 4 else 0) else cdFirst B n
theorem cdFirst_later {B : Nat → Cd} {n m : Nat} (h : cdFirst B n ≠ 0) (hm : n ≤ m) : cdFirst B m = cdFirst B n := by
  induction m with
  | zero => rw [show n = 0 by omega]
  | succ m ih =>
    rcases Nat.lt_or_eq_of_le hm with h1 | h1
    · rw [cdFirst, ih (by omega), if_neg h]
    · rw [h1]
theorem voErr_bad {B : Nat → Cd} {n k : Nat} (h0 : cdFirst B k = 0) (h : cdErr (B k) ≠ 0) (hk : k < n) : voErr B n = cdErr (B k) := by
  have h1 : cdFirst B (k + 1) = cdErr (B k) := by rw [cdFirst, if_pos h0]
  have h2 := cdFirst_later (m := n) (by rw [h1]; exact h) (show k + 1 ≤ n by omega)
  unfold voErr
  rw [h2, h1, if_neg h]
theorem cdErr_kind {b : Cd} (h : ¬ (b.k = 1 ∨ b.k = 2)) : cdErr b = 1 := if_neg h
theorem cdErr_rng {b : Cd} (h : b.k = 1 ∨ b.k = 2) (h2 : ¬ rngOk b) : cdErr b = 3 := by unfold cdErr; rw [if_pos h, if_neg h2]
theorem cdErr_ok {b : Cd} (h : b.k = 1 ∨ b.k = 2) (h2 : rngOk b) : cdErr b = 0 := by unfold cdErr; rw [if_pos h, if_pos h2]

theorem isKind_yes (k : Int) (w : World) (h : k = 1 ∨ k = 2) : Calls Tryd.prog 58 #[.int .i64 k] w fun e w' => e = .returned (.bool true) ∧ w = w' := by
  rcases h with rfl | rfl
  all_goals
    go_enter Tryd.func58, Tryd.ntmps58
    go_wp2_with fail
    go_ret
    exact ⟨rfl, rfl⟩
theorem isKind_no (k : Int) (w : World) (h : ¬ (k = 1 ∨ k = 2)) : Calls Tryd.prog 58 #[.int .i64 k] w fun e w' => e = .returned (.bool false) ∧ w = w' := by
  have h1 : (k == (1 : Int)) = false := by simp; omega
  have h2 : (k == (2 : Int)) = false := by simp; omega
  go_enter Tryd.func58, Tryd.ntmps58
  go_wp2_with fail
  go_ret
  exact ⟨rfl, rfl⟩

set_option maxHeartbeats 1000000 in
set_option maxRecDepth 100000 in
theorem checkCodes_any (n g o c : Nat) (B : Nat → Cd) (w : World) (hn : n ≤ 9223372036854775807) (hB : CodesAt w g o n B) :
    Calls Tryd.prog 31 #[.slice (some ⟨g, o, none⟩) n c] w fun e w' => e = .returned (.int .i64 (voErr B n)) ∧ Below w.heap.size w w' := by
  have HB := Lib.hid (fun wx (hx : Below w.heap.size w wx) => hB.later hx)
  clear hB
  go_enter Tryd.func31, Tryd.ntmps31
  go_wp2_with fail
  go_loopw [7] (fun i wr => ∃ k : Nat, k ≤ n ∧ i = .int .i64 k ∧ Hid (Below w.heap.size w wr ∧ cdFirst B k = 0)) (fun i _ => n - (intOf i).toNat)
  case atStart => exact ⟨0, Nat.zero_le _, rfl, Lib.hid ⟨Below.refl _ _, rfl⟩⟩
  case round =>
    obtain ⟨k, hk, rfl, HR⟩ := hrel
    obtain ⟨wo, rfl⟩ : ∃ wo : World, wo = wr := ⟨_, rfl⟩
    by_cases hlt : k < n
    · have j1 : (k : Int) < (n : Int) := by omega
      obtain ⟨c0, c1, c2, c3, c4, c5⟩ := HB.out wo HR.out.1 k hlt
      have HV := Lib.hid (fun h => voErr_bad HR.out.2 h hlt)
      have HF := Lib.hid (show cdFirst B (k + 1) = cdErr (B k) by rw [cdFirst, if_pos HR.out.2])
      generalize B k = b at *
      obtain ⟨kk, t, x, y, wd, q⟩ := b
      simp only at c0 c1 c2 c3 c4 c5
      by_cases hkk : kk = 1 ∨ kk = 2
      · have HK := Lib.hid hkk
        clear hkk
        by_cases hx : 0 ≤ x ∧ x ≤ 4000
        · have HX := Lib.hid hx
          by_cases hy : 0 ≤ y ∧ y ≤ 4000
          · have HY := Lib.hid hy
            by_cases hw : 0 ≤ wd ∧ wd ≤ 4000
            · have HW := Lib.hid hw
              by_cases hq : 1 ≤ q ∧ q ≤ 1000000
              · have HQ := Lib.hid hq
                have HE := Lib.hid (cdErr_ok (b := ⟨kk, t, x, y, wd, q⟩) HK.out ⟨hx, hy, hw, hq⟩)
                clear hx hy hw hq
                go_wp2_with (first | (go_at_call 58; (with_reducible refine (isKind_yes kk _ HK.out).mono ?_); rintro e w' ⟨rfl, rfl⟩) | (go_at_call 59; (with_reducible refine (outside_no x 0 4000 _ HX.out).mono ?_); rintro e w' ⟨rfl, rfl⟩) | (go_at_call 59; (with_reducible refine (outside_no y 0 4000 _ HY.out).mono ?_); rintro e w' ⟨rfl, rfl⟩) | (go_at_call 59; (with_reducible refine (outside_no wd 0 4000 _ HW.out).mono ?_); rintro e w' ⟨rfl, rfl⟩) | (go_at_call 59; (with_reducible refine (outside_no q 1 1000000 _ HQ.out).mono ?_); rintro e w' ⟨rfl, rfl⟩))
                go_roundw
                case rel => exact ⟨k + 1, by omega, by go_num, Lib.hid ⟨below_alloc HR.out.1 _, by rw [HF.out, HE.out]⟩⟩
                case measure => simp [intOf]; omega
              · have HQ := Lib.hid hq
                have HE := Lib.hid (cdErr_rng (b := ⟨kk, t, x, y, wd, q⟩) HK.out (fun h => hq h.2.2.2))
                clear hx hy hw hq
                go_wp2_with (first | (go_at_call 58; (with_reducible refine (isKind_yes kk _ HK.out).mono ?_); rintro e w' ⟨rfl, rfl⟩) | (go_at_call 59; (with_reducible refine (outside_no x 0 4000 _ HX.out).mono ?_); rintro e w' ⟨rfl, rfl⟩) | (go_at_call 59; (with_reducible refine (outside_no y 0 4000 _ HY.out).mono ?_); rintro e w' ⟨rfl, rfl⟩) | (go_at_call 59; (with_reducible refine (outside_no wd 0 4000 _ HW.out).mono ?_); rintro e w' ⟨rfl, rfl⟩) | (go_at_call 59; (with_reducible refine (outside_yes q 1 1000000 _ HQ.out).mono ?_); rintro e w' ⟨rfl, rfl⟩))
                go_ret
                exact ⟨ret_int (by rw [HV.out (by rw [HE.out]; decide), HE.out]), below_alloc HR.out.1 _⟩
            · have HW := Lib.hid hw
              have HE := Lib.hid (cdErr_rng (b := ⟨kk, t, x, y, wd, q⟩) HK.out (fun h => hw h.2.2.1))
              clear hx hy hw
              go_wp2_with (first | (go_at_call 58; (with_reducible refine (isKind_yes kk _ HK.out).mono ?_); rintro e w' ⟨rfl, rfl⟩) | (go_at_call 59; (with_reducible refine (outside_no x 0 4000 _ HX.out).mono ?_); rintro e w' ⟨rfl, rfl⟩) | (go_at_call 59; (with_reducible refine (outside_no y 0 4000 _ HY.out).mono ?_); rintro e w' ⟨rfl, rfl⟩) | (go_at_call 59; (with_reducible refine (outside_yes wd 0 4000 _ HW.out).mono ?_); rintro e w' ⟨rfl, rfl⟩))
              go_ret
              exact ⟨ret_int (by rw [HV.out (by rw [HE.out]; decide), HE.out]), below_alloc HR.out.1 _⟩
          · have HY := Lib.hid hy
            have HE := Lib.hid (cdErr_rng (b := ⟨kk, t, x, y, wd, q⟩) HK.out (fun h => hy h.2.1))
            clear hx hy
            go_wp2_with (first | (go_at_call 58; (with_reducible refine (isKind_yes kk _ HK.out).mono ?_); rintro e w' ⟨rfl, rfl⟩) | (go_at_call 59; (with_reducible refine (outside_no x 0 4000 _ HX.out).mono ?_); rintro e w' ⟨rfl, rfl⟩) | (go_at_call 59; (with_reducible refine (outside_yes y 0 4000 _ HY.out).mono ?_); rintro e w' ⟨rfl, rfl⟩))
            go_ret
            exact ⟨ret_int (by rw [HV.out (by rw [HE.out]; decide), HE.out]), below_alloc HR.out.1 _⟩
        · have HX := Lib.hid hx
          have HE := Lib.hid (cdErr_rng (b := ⟨kk, t, x, y, wd, q⟩) HK.out (fun h => hx h.1))
          clear hx
          go_wp2_with (first | (go_at_call 58; (with_reducible refine (isKind_yes kk _ HK.out).mono ?_); rintro e w' ⟨rfl, rfl⟩) | (go_at_call 59; (with_reducible refine (outside_yes x 0 4000 _ HX.out).mono ?_); rintro e w' ⟨rfl, rfl⟩))
          go_ret
          exact ⟨ret_int (by rw [HV.out (by rw [HE.out]; decide), HE.out]), below_alloc HR.out.1 _⟩
      · have HK := Lib.hid hkk
        have HE := Lib.hid (cdErr_kind (b := ⟨kk, t, x, y, wd, q⟩) HK.out)
        clear hkk
        go_wp2_with (first | (go_at_call 58; (with_reducible refine (isKind_no kk _ HK.out).mono ?_); rintro e w' ⟨rfl, rfl⟩))
        go_ret
        exact ⟨ret_int (by rw [HV.out (by rw [HE.out]; decide), HE.out]), below_alloc HR.out.1 _⟩
    · obtain rfl : k = n := by omega
      by_cases hbig : 10000 < k
      · have hb : (10000 : Int) < (k : Int) := by omega
        have HV := Lib.hid (show voErr B k = 4 by unfold voErr; rw [if_pos HR.out.2, if_pos hbig])
        go_wp2_with fail
        go_ret
        exact ⟨ret_int HV.out.symm, HR.out.1⟩
      · have hb : ¬ (10000 : Int) < (k : Int) := by omega
        have HV := Lib.hid (show voErr B k = 0 by unfold voErr; rw [if_pos HR.out.2, if_neg hbig])
        go_wp2_with fail
        go_ret
        exact ⟨ret_int HV.out.symm, HR.out.1⟩

end Go.Proofs.YtmloidgeolgpdaaDoor
namespace Go.Proofs.YtmloidgeolgpdaaDoor
open Go.RowKit Go.Maps
set_option linter.unusedSimpArgs false
set_option linter.unusedVariables false

/-- The place of a kind and a text. -/
def plc (T : List Cd) (k : Int) (t : ByteArray) : Nat := T.findIdx fun d => decide (d.k = k ∧ d.t = t)
def joinC (a b : Cd) : Cd := ⟨a.k, a.t, min a.x b.x, min a.y b.y, max (a.x + a.w) (b.x + b.w) - min a.x b.x, a.c + b.c⟩
def putC (T : List Cd) (c : Cd) : List Cd := if plc T c.k c.t < T.length then T.set (plc T c.k c.t) (joinC (T.getD (plc T c.k c.t) default) c) else T ++ [c]
def allC (B : Nat → Cd) : Nat → List Cd
  | 0 => []
  | n + 1 => putC (allC B n) (B n)

/-- What holds of all that is put together. -/
def FitC (m : Nat) (d : Cd) : Prop := (d.k = 1 ∨ d.k = 2) ∧ (0 ≤ d.x ∧ d.x ≤ 4000) ∧ (0 ≤ d.y ∧ d.y ≤ 4000) ∧ (0 ≤ d.w ∧ d.x + d.w ≤ 8000) ∧ (1 ≤ d.c ∧ d.c ≤ 1000000 * m) ∧ d.t.size ≤ 9223372036854775807
structure GoodC (m : Nat) (T : List Cd) : Prop where
  len : T.length ≤ m
  fit : ∀ i, i < T.length → FitC m (T.getD i default)
  dif : ∀ i j, i < T.length → j < T.length → (T.getD i default).k = (T.getD j default).k → (T.getD i default).t = (T.getD j default).t → i = j

theorem plc_le (T : List Cd) (k : Int) (t : ByteArray) : plc T k t ≤ T.length := List.findIdx_le_length
theorem plc_at {T : List Cd} {k : Int} {t : ByteArray} (h : plc T k t < T.length) : (T.getD (plc T k t) default).k = k ∧ (T.getD (plc T k t) default).t = t := by
  have := List.findIdx_getElem (p := fun d : Cd => decide (d.k = k ∧ d.t = t)) (xs := T) (w := h)
  rw [decide_eq_true_eq] at this
  rw [List.getD_eq_getElem?_getD, List.getElem?_eq_getElem h]
  exact this
theorem plc_not {T : List Cd} {k : Int} {t : ByteArray} {i : Nat} (h : i < plc T k t) (hi : i < T.length) : ¬ ((T.getD i default).k = k ∧ (T.getD i default).t = t) := by
  have := List.not_of_lt_findIdx (p := fun d : Cd => decide (d.k = k ∧ d.t = t)) (xs := T) (i := i) h
  rw [List.getD_eq_getElem?_getD, List.getElem?_eq_getElem hi]
  simpa using this

theorem getD_set (T : List Cd) (i j : Nat) (x : Cd) (hi : i < T.length) : (T.set i x).getD j default = if j = i then x else T.getD j default := by
  simp only [List.getD_eq_getElem?_getD, List.getElem?_set]
  by_cases e : j = i
  · subst e; simp [hi]
  · rw [if_neg (fun k => e k.symm), if_neg e]
theorem getD_snoc (T : List Cd) (j : Nat) (x : Cd) (hj : j ≤ T.length) : (T ++ [x]).getD j default = if j = T.length then x else T.getD j default := by
  simp only [List.getD_eq_getElem?_getD]
  by_cases e : j = T.length
  · subst e; simp
  · rw [if_neg e, List.getElem?_append_left (by omega)]

theorem fitC_step {m : Nat} {d : Cd} (h : FitC m d) : FitC (m + 1) d := by
  obtain ⟨h1, h2, h3, h4, h5, h6⟩ := h
  exact ⟨h1, h2, h3, h4, ⟨h5.1, by omega⟩, h6⟩
theorem joinC_fit {m : Nat} {a b : Cd} (h : FitC m a) (hk : b.k = 1 ∨ b.k = 2) (hb : rngOk b) : FitC (m + 1) (joinC a b) := by
  obtain ⟨h1, h2, h3, h4, h5, h6⟩ := h
  obtain ⟨b1, b2, b3, b4⟩ := hb
  unfold joinC
  refine ⟨h1, ?_, ?_, ?_, ?_, h6⟩ <;> simp only <;> omega

theorem putC_good {m : Nat} {T : List Cd} {c : Cd} (h : GoodC m T) (hk : c.k = 1 ∨ c.k = 2) (hc : rngOk c) (ht : c.t.size ≤ 9223372036854775807) : GoodC (m + 1) (putC T c) := by
  unfold putC
  by_cases hp : plc T c.k c.t < T.length
  · rw [if_pos hp]
    have hj := joinC_fit (h.fit _ hp) hk hc
    obtain ⟨p1, p2⟩ := plc_at hp
    generalize plc T c.k c.t = p at *
    refine ⟨by rw [List.length_set]; have := h.len; omega, fun i hi => ?_, fun i j hi hj' e1 e2 => ?_⟩
    · rw [List.length_set] at hi
      rw [getD_set _ _ _ _ hp]
      split
      · exact hj
      · exact fitC_step (h.fit i hi)
    · rw [List.length_set] at hi hj'
      have e : ∀ q, ((T.set p (joinC (T.getD p default) c)).getD q default).k = (T.getD q default).k ∧ ((T.set p (joinC (T.getD p default) c)).getD q default).t = (T.getD q default).t := fun q => by
        rw [getD_set _ _ _ _ hp]
        split
        · subst q; exact ⟨rfl, rfl⟩
        · exact ⟨rfl, rfl⟩
      rw [(e i).1, (e j).1] at e1
      rw [(e i).2, (e j).2] at e2
      exact h.dif i j hi hj' e1 e2
  · rw [if_neg hp]
    have hn : ∀ i, i < T.length → ¬ ((T.getD i default).k = c.k ∧ (T.getD i default).t = c.t) := fun i hi => plc_not (by have := plc_le T c.k c.t; omega) hi
    have hfc : FitC (m + 1) c := ⟨hk, hc.1, hc.2.1, ⟨hc.2.2.1.1, by have := hc.1; have := hc.2.2.1; omega⟩, ⟨hc.2.2.2.1, by have := hc.2.2.2.2; omega⟩, ht⟩
    refine ⟨by rw [List.length_append, List.length_singleton]; have := h.len; omega, fun i hi => ?_, fun i j hi hj e1 e2 => ?_⟩
    · rw [List.length_append, List.length_singleton] at hi
      rw [getD_snoc _ _ _ (by omega)]
      split
      · exact hfc
      · exact fitC_step (h.fit i (by omega))
    · rw [List.length_append, List.length_singleton] at hi hj
      rw [getD_snoc _ _ _ (by omega), getD_snoc _ _ _ (by omega)] at e1 e2
      by_cases hi' : i = T.length
      · by_cases hj' : j = T.length
        · omega
        · rw [if_pos hi', if_neg hj'] at e1 e2
          exact absurd ⟨e1.symm, e2.symm⟩ (hn j (by omega))
      · by_cases hj' : j = T.length
        · rw [if_neg hi', if_pos hj'] at e1 e2
          exact absurd ⟨e1, e2⟩ (hn i (by omega))
        · rw [if_neg hi', if_neg hj'] at e1 e2
          exact h.dif i j (by omega) (by omega) e1 e2

/-- Where each kind and text is after one more was put in. -/
theorem plc_put (T : List Cd) (c : Cd) (k : Int) (t : ByteArray) : plc (putC T c) k t = if plc T c.k c.t < T.length then plc T k t else (if k = c.k ∧ t = c.t then T.length else if plc T k t < T.length then plc T k t else T.length + 1) := by
  unfold putC
  by_cases hp : plc T c.k c.t < T.length
  · rw [if_pos hp, if_pos hp]
    obtain ⟨p1, p2⟩ := plc_at hp
    generalize plc T c.k c.t = p at *
    unfold plc
    have e : (T.set p (joinC (T.getD p default) c)).map (fun d => decide (d.k = k ∧ d.t = t)) = T.map (fun d => decide (d.k = k ∧ d.t = t)) := by
      rw [List.map_set]
      apply List.ext_getElem
      · simp
      · intro i h1 h2
        rw [List.getElem_set]
        split
        · subst i
          simp only [List.getElem_map, joinC, List.getD_eq_getElem?_getD, List.getElem?_eq_getElem hp, Option.getD_some]
        · rfl
    have f : ∀ L : List Cd, L.findIdx (fun d => decide (d.k = k ∧ d.t = t)) = (L.map (fun d => decide (d.k = k ∧ d.t = t))).findIdx id := fun L => by rw [List.findIdx_map]; rfl
    rw [f, f, e]
  · rw [if_neg hp, if_neg hp]
    unfold plc at hp ⊢
    rw [List.findIdx_append]
    by_cases e : k = c.k ∧ t = c.t
    · obtain ⟨e1, e2⟩ := e
      subst e1 e2
      rw [if_neg hp, if_pos (And.intro (rfl : c.k = c.k) (rfl : c.t = c.t))]
      simp [List.findIdx_cons]
    · rw [if_neg e]
      split
      · rfl
      · have : ¬ (c.k = k ∧ c.t = t) := fun h => e ⟨h.1.symm, h.2.symm⟩
        rw [List.findIdx_cons, decide_eq_false this]
        simp only [cond_false, List.findIdx_nil]; omega

def CNo (B : Nat → Cd) (n : Nat) : Prop := ∀ i, i < n → ((B i).k = 1 ∨ (B i).k = 2) ∧ rngOk (B i) ∧ (B i).t.size ≤ 9223372036854775807
theorem allC_good {B : Nat → Cd} : ∀ {n : Nat}, CNo B n → GoodC n (allC B n)
  | 0, _ => ⟨Nat.le_refl _, fun i hi => absurd hi (Nat.not_lt_zero _), fun i j hi => absurd hi (Nat.not_lt_zero _)⟩
  | n + 1, h => putC_good (allC_good (fun i hi => h i (by omega))) (h n (by omega)).1 (h n (by omega)).2.1 (h n (by omega)).2.2
theorem cdFirst_no {B : Nat → Cd} : ∀ {n : Nat}, cdFirst B n = 0 → ∀ i, i < n → ((B i).k = 1 ∨ (B i).k = 2) ∧ rngOk (B i)
  | 0, _, i, hi => absurd hi (Nat.not_lt_zero _)
  | n + 1, h, i, hi => by
    have h0 : cdFirst B n = 0 := by
      apply Classical.byContradiction
      intro h1
      rw [cdFirst, if_neg h1] at h
      exact h1 h
    rw [cdFirst, if_pos h0] at h
    by_cases e : i = n
    · subst e
      unfold cdErr at h
      split at h
      · split at h
        · exact ⟨‹_›, ‹_›⟩
        · cases h
      · cases h
    · exact cdFirst_no h0 i (by omega)

/-! ### keys -/
theorem vt_wide : (match Tryd.prog.underlying 55 with | some (.array _ _) | some (.struct _) => true | _ => false) = true := by rw [Tryd.underlying55]
theorem vt_key : Tryd.prog.keyType 55 = true := by kernel_rfl
theorem vt_row : (55 : TypeId) < Tryd.prog.types.size := of_decide_eq_true (by kernel_rfl)
theorem vt_cells : Tryd.prog.cellsOf 55 = 2 := by kernel_rfl
theorem vt_int : Tryd.prog.cellsOf 3 = 1 := by kernel_rfl
theorem vt_str : Tryd.prog.cellsOf 9 = 1 := by kernel_rfl
set_option maxRecDepth 100000 in
theorem vt_law : WideMaps.KeyLaw Tryd.prog 55 := deep_law_laid laidOut (m := 2) (by omega) vt_row (by kernel_rfl) vt_wide
theorem vt_keyed : Keyed Tryd.prog 55 := Keyed.of_law vt_law

theorem keyOf_is {P : Program} {k it st : TypeId} {f0 f1 : Field} (hu : P.underlying k = some (.struct #[f0, f1])) (hi : P.underlying it = some (.int .i64)) (hs : P.underlying st = some .string) (hp : 0 < P.types.size) (hk : P.keyType k = true) (hc : P.cellsOf k = 2) (hci : P.cellsOf it = 1) (hcs : P.cellsOf st = 1)
    (e0 : f0.type = it) (e1 : f1.type = st) (o0 : f0.offset = 0) (o1 : f1.offset = 1) (n0 : (f0.name != "_") = true) (n1 : (f1.name != "_") = true) (u : Int) (v : ByteArray) (w1 : (Lit.int .i64 u).wf = true) (w2 : v.size ≤ maxLen) :
    keyOf P k (.agg #[.int .i64 u, .string v]) = some (.string (keyBytes [.int .i64 u, .string v.data.toList])) := by
  have hf : (Value.agg #[.int .i64 u, .string v]).formed P k = true := by simp [Value.formed, hu, hc]
  obtain ⟨n, hn⟩ : ∃ n, P.types.size = n + 1 := ⟨_, (Nat.succ_pred_eq_of_pos hp).symm⟩
  unfold keyOf
  rw [hu]
  simp only [hk, hf, hn, Value.cells]
  simp [Program.keyLits, hu, hi, hs, hc, hci, hcs, e0, e1, o0, o1, n0, n1, w1, w2]

def vtLit (u : Int) (v : ByteArray) : Lit := .string (keyBytes [.int .i64 u, .string v.data.toList])
theorem vt_lit (u : Int) (v : ByteArray) (hu : 0 ≤ u ∧ u ≤ 100000) (hv : v.size ≤ maxLen) : keyOf Tryd.prog 55 (.agg #[.int .i64 u, .string v]) = some (vtLit u v) :=
  keyOf_is Tryd.underlying55 Tryd.underlying3 Tryd.underlying9 (Nat.lt_of_le_of_lt (Nat.zero_le _) vt_row) vt_key vt_cells vt_int vt_str rfl rfl rfl rfl (by decide) (by decide) u v (WalkArith.wf_i64 (by omega)) hv
theorem vt_inj {u a : Int} {v b : ByteArray} (hu : 0 ≤ u ∧ u ≤ 100000) (hv : v.size ≤ maxLen) (ha : 0 ≤ a ∧ a ≤ 100000) (hb : b.size ≤ maxLen) (h : vtLit u v = vtLit a b) : u = a ∧ v = b := by
  have h1 := vt_lit u v hu hv
  rw [h] at h1
  have h2 := vt_keyed.inj h1 (vt_lit a b ha hb)
  simp at h2
  exact h2
theorem zero_intV (w : World) : (zeroValue 3).run Tryd.prog w = .ok (.int .i64 0) w := by kernel_rfl

/-- A map in memory that tells the place of each kind and text. -/
def PlMap (T : List Cd) (b n : Nat) (wr : World) : Prop :=
  ∃ D : DataW Unit, wr.ownsMap Tryd.prog 55 (plainElem Tryd.prog 3) b n D ∧ IsMap D ∧ ∀ (u : Int) (v : ByteArray), (u = 1 ∨ u = 2) → v.size ≤ maxLen → Maps.has D (vtLit u v) = decide (plc T u v < T.length) ∧ (plc T u v < T.length → D.atKey (vtLit u v) (.lit (.int .i64 0)) = .lit (.int .i64 (plc T u v : Nat)))
theorem plMap_kept {T : List Cd} {b n : Nat} {w w' : World} {row : Option Nat} (h : PlMap T b n w) (hg : w.grownBy w' row) (hne : some b ≠ row) : PlMap T b n w' := by
  obtain ⟨D, h1, h2, h3⟩ := h
  exact ⟨D, h1.kept hg hne, h2, h3⟩
theorem plMap_look {T : List Cd} {b n : Nat} {u : Int} {v : ByteArray} {w : World} (h : PlMap T b n w) (hu : u = 1 ∨ u = 2) (hv : v.size ≤ maxLen) :
    ∃ c : Int, (plc T u v < T.length → c = (plc T u v : Nat)) ∧ (Instr.lookup 53 (.map (some b)) (.agg #[.int .i64 u, .string v]) true).run Tryd.prog w = .ok (.tuple #[.int .i64 c, .bool (decide (plc T u v < T.length))]) w := by
  obtain ⟨D, h1, h2, h3⟩ := h
  have hu' : 0 ≤ u ∧ u ≤ 100000 := by omega
  obtain ⟨x, ps, hrun, hx⟩ := h1.look_ok vt_keyed Tryd.underlying53 (zero_intV w) (plainElem_int Tryd.underlying3 (a := 0) (by decide)) (vt_lit u v hu' hv)
  obtain ⟨c, rfl, hc, _⟩ := plainElem_int_inv Tryd.underlying3 hx
  obtain ⟨g1, g2⟩ := h3 u v hu hv
  refine ⟨c, fun hp => ?_, by rw [hrun, g1]⟩
  have := congrArg Prod.fst hc
  simp only at this
  rw [g2 hp] at this
  simpa using this.symm
theorem plMap_store {T : List Cd} {b n : Nat} {c : Cd} {w : World} (h : PlMap T b n w) (hn : n < maxLen) (hk : c.k = 1 ∨ c.k = 2) (hv : c.t.size ≤ maxLen) (hl : T.length ≤ 100000) (hp : ¬ plc T c.k c.t < T.length) :
    ∃ w', (Instr.mapUpdate 53 (.map (some b)) (.agg #[.int .i64 c.k, .string c.t]) (.int .i64 (T.length : Nat))).run Tryd.prog w = .ok () w' ∧ PlMap (putC T c) b (n + 1) w' ∧ w.grownBy w' (some b) := by
  obtain ⟨D, h1, h2, h3⟩ := h
  have hu' : 0 ≤ c.k ∧ c.k ≤ 100000 := by omega
  obtain ⟨w', hrun, ho, hg⟩ := h1.update vt_keyed Tryd.underlying53 hn (vt_lit c.k c.t hu' hv) (plainElem_int Tryd.underlying3 (a := (T.length : Nat)) (WalkArith.wf_i64 (by omega)))
  have hlen : (putC T c).length = T.length + 1 := by unfold putC; rw [if_neg hp]; simp
  refine ⟨w', hrun, ⟨_, ho, h2.put _ _, fun u v hu hv' => ?_⟩, hg⟩
  have hu2 : 0 ≤ u ∧ u ≤ 100000 := by omega
  rw [plc_put, if_neg hp, hlen]
  by_cases e : u = c.k ∧ v = c.t
  · obtain ⟨rfl, rfl⟩ := e
    rw [if_pos ⟨rfl, rfl⟩]
    have K := vt_keyed.key (vt_lit c.k c.t hu' hv)
    exact ⟨by rw [Maps.has_put_same h2 K]; simp, fun _ => by rw [atKey_put_same h2 K]⟩
  · rw [if_neg e]
    have ne : vtLit u v ≠ vtLit c.k c.t := fun k => e (vt_inj hu2 hv' hu' hv k)
    obtain ⟨g1, g2⟩ := h3 u v hu hv'
    rw [Maps.has_put_other ne, atKey_put_other ne, g1]
    by_cases hq : plc T u v < T.length
    · rw [if_pos hq]; exact ⟨by simp [hq]; omega, fun _ => g2 hq⟩
    · rw [if_neg hq]; exact ⟨by simp [hq], fun h => by omega⟩
theorem plMap_new (w : World) : PlMap [] w.heap.size 0 (w.alloc (.map #[] 0)) :=
  ⟨.map [], World.ownsMap_made w Tryd.prog 55 _, isMap_empty, fun _ _ _ _ => ⟨rfl, fun h => absurd h (Nat.not_lt_zero _)⟩⟩
theorem plMap_join {T : List Cd} {b n : Nat} {c : Cd} {w : World} (h : PlMap T b n w) (hp : plc T c.k c.t < T.length) : PlMap (putC T c) b n w := by
  obtain ⟨D, h1, h2, h3⟩ := h
  have hlen : (putC T c).length = T.length := by unfold putC; rw [if_pos hp]; simp
  refine ⟨D, h1, h2, fun u v hu hv => ?_⟩
  rw [plc_put, if_pos hp, hlen]
  exact h3 u v hu hv

end Go.Proofs.YtmloidgeolgpdaaDoor
namespace Go.Proofs.YtmloidgeolgpdaaDoor
open Go.RowKit
set_option linter.unusedSimpArgs false
set_option linter.unusedVariables false

theorem heap_alloc_new' (w : World) (b : Nat) (o : Obj) (hb : b = w.heap.size) : (w.alloc o).heap[b]? = some o := by rw [hb]; exact heap_alloc_new w o

set_option maxHeartbeats 1000000 in
set_option maxRecDepth 100000 in
theorem joined_any (m : Nat) (a b : Cd) (w : World) (ha : FitC m a) (hb : rngOk b) (hm : m ≤ 10000) :
    Calls Tryd.prog 32 #[.agg (cdV a).toArray, .agg (cdV b).toArray] w fun e w' => e = .returned (.agg (cdV (joinC a b)).toArray) ∧ Below w.heap.size w w' := by
  obtain ⟨k, t, x, y, u, c⟩ := a
  obtain ⟨k2, t2, x2, y2, u2, c2⟩ := b
  have HV := Lib.hid (show joinC ⟨k, t, x, y, u, c⟩ ⟨k2, t2, x2, y2, u2, c2⟩ = ⟨k, t, min x x2, min y y2, max (x + u) (x2 + u2) - min x x2, c + c2⟩ from rfl)
  rw [HV.out]
  unfold cdV
  obtain ⟨h1, h2, h3, h4, h5, h6⟩ := ha
  obtain ⟨g1, g2, g3, g4⟩ := hb
  simp only at h1 h2 h3 h4 h5 h6 g1 g2 g3 g4
  have e1 : IntKind.i64.wrap (x + u) = x + u := IntWalk.i64_in _ (by omega)
  have e2 : IntKind.i64.wrap (x2 + u2) = x2 + u2 := IntWalk.i64_in _ (by omega)
  obtain ⟨mx, hmx⟩ : ∃ mx, mx = min x x2 := ⟨_, rfl⟩
  obtain ⟨my, hmy⟩ : ∃ my, my = min y y2 := ⟨_, rfl⟩
  obtain ⟨r, hr⟩ : ∃ r, r = max (x + u) (x2 + u2) := ⟨_, rfl⟩
  have e3 : IntKind.i64.wrap (r - mx) = r - mx := IntWalk.i64_in _ (by omega)
  have e4 : IntKind.i64.wrap (c + c2) = c + c2 := IntWalk.i64_in _ (by omega)
  rw [← hmx, ← hmy, ← hr]
  clear h1 h2 h3 h4 h5 h6 g1 g2 g3 g4 HV
  go_enter Tryd.func32, Tryd.ntmps32
  go_upto_region 2 with (fail)
  rw [← hr]
  obtain ⟨n, hn⟩ : ∃ n, n = w.heap.size := ⟨_, rfl⟩
  obtain ⟨w1, hw1⟩ : ∃ w1, w1 = ((w.alloc (.cells #[.int .i64 k, .string t, .int .i64 x, .int .i64 y, .int .i64 u, .int .i64 c] 40)).alloc (.cells #[.int .i64 k2, .string t2, .int .i64 x2, .int .i64 y2, .int .i64 u2, .int .i64 c2] 40)).alloc (.cells #[.int .i64 0, .string ⟨#[]⟩, .int .i64 0, .int .i64 0, .int .i64 0, .int .i64 0] 40) := ⟨_, rfl⟩
  have B1 := Lib.hid (show Below w.heap.size w w1 by rw [hw1]; exact below_alloc (below_alloc (new_below _ _) _) _)
  have a0 : w1.cell? ⟨n, 0, none⟩ = some (.int .i64 k) := by rw [hw1, hn]; go_simp
  have a1 : w1.cell? ⟨n, 1, none⟩ = some (.string t) := by rw [hw1, hn]; go_simp
  have a2 : w1.cell? ⟨n, 2, none⟩ = some (.int .i64 x) := by rw [hw1, hn]; go_simp
  have a3 : w1.cell? ⟨n, 3, none⟩ = some (.int .i64 y) := by rw [hw1, hn]; go_simp
  have a4 : w1.cell? ⟨n, 4, none⟩ = some (.int .i64 u) := by rw [hw1, hn]; go_simp
  have a5 : w1.cell? ⟨n, 5, none⟩ = some (.int .i64 c) := by rw [hw1, hn]; go_simp
  have f2 : w1.frozen? ⟨n, 2, none⟩ = false := by rw [hw1, hn]; go_simp
  have f3 : w1.frozen? ⟨n, 3, none⟩ = false := by rw [hw1, hn]; go_simp
  have b2 : w1.cell? ⟨n + 1, 2, none⟩ = some (.int .i64 x2) := by rw [hw1, hn]; go_simp
  have b3 : w1.cell? ⟨n + 1, 3, none⟩ = some (.int .i64 y2) := by rw [hw1, hn]; go_simp
  have b5 : w1.cell? ⟨n + 1, 5, none⟩ = some (.int .i64 c2) := by rw [hw1, hn]; go_simp
  have HN := Lib.hid hn
  have HW := Lib.hid hw1
  rw [← hw1, ← hn]
  clear hw1 hn
  go_region
  rw [← hmx, ← hmy]
  obtain ⟨w2, hw2⟩ : ∃ w2, w2 = ((w1.setCell ⟨n, 2, none⟩ (.int .i64 mx)).setCell ⟨n, 3, none⟩ (.int .i64 my)).drew := ⟨_, rfl⟩
  have B2 := Lib.hid (show Below w.heap.size w w2 by rw [hw2]; exact (((B1.out).setCell (by simp [HN.out]) _).setCell (by simp [HN.out]) _).drew)
  have z0 : w2.cell? ⟨n, 0, none⟩ = some (.int .i64 k) := by rw [hw2]; go_simp
  have z1 : w2.cell? ⟨n, 1, none⟩ = some (.string t) := by rw [hw2]; go_simp
  have z2 : w2.cell? ⟨n, 2, none⟩ = some (.int .i64 mx) := by rw [hw2]; go_simp
  have z3 : w2.cell? ⟨n, 3, none⟩ = some (.int .i64 my) := by rw [hw2]; go_simp
  have z4 : w2.cell? ⟨n, 4, none⟩ = some (.int .i64 u) := by rw [hw2]; go_simp
  have z5 : w2.cell? ⟨n, 5, none⟩ = some (.int .i64 c) := by rw [hw2]; go_simp
  have y5 : w2.cell? ⟨n + 1, 5, none⟩ = some (.int .i64 c2) := by rw [hw2]; go_simp
  have f4 : w2.frozen? ⟨n, 4, none⟩ = false := by rw [hw2, HW.out, HN.out]; go_simp
  have f5 : w2.frozen? ⟨n, 5, none⟩ = false := by rw [hw2, HW.out, HN.out]; go_simp
  have q : w2.heap[n + 1 + 1]? = some (.cells #[.int .i64 0, .string ⟨#[]⟩, .int .i64 0, .int .i64 0, .int .i64 0, .int .i64 0] 40 (0, 0)) := by
    rw [hw2]
    show ((w1.setCell _ _).setCell _ _).heap[_]? = _
    rw [Below.heap_setCell _ _ _ _ (by simp; omega), Below.heap_setCell _ _ _ _ (by simp; omega), HW.out, HN.out]
    exact heap_alloc_new' _ _ _ (by simp)
  have Q := Lib.hid q
  have q0 : w2.cell? ⟨n + 1 + 1, 0, none⟩ = some (.int .i64 0) := by rw [cell_of_row w2 _ 0 _ 40 (0, 0) q]; rfl
  have q1 : w2.cell? ⟨n + 1 + 1, 1, none⟩ = some (.string ⟨#[]⟩) := by rw [cell_of_row w2 _ 1 _ 40 (0, 0) q]; rfl
  have q2 : w2.cell? ⟨n + 1 + 1, 2, none⟩ = some (.int .i64 0) := by rw [cell_of_row w2 _ 2 _ 40 (0, 0) q]; rfl
  have q3 : w2.cell? ⟨n + 1 + 1, 3, none⟩ = some (.int .i64 0) := by rw [cell_of_row w2 _ 3 _ 40 (0, 0) q]; rfl
  have q4 : w2.cell? ⟨n + 1 + 1, 4, none⟩ = some (.int .i64 0) := by rw [cell_of_row w2 _ 4 _ 40 (0, 0) q]; rfl
  have q5 : w2.cell? ⟨n + 1 + 1, 5, none⟩ = some (.int .i64 0) := by rw [cell_of_row w2 _ 5 _ 40 (0, 0) q]; rfl
  have p0 := frozen_of_row w2 (n + 1 + 1) 0 _ 40 q
  have p1 := frozen_of_row w2 (n + 1 + 1) 1 _ 40 q
  have p2 := frozen_of_row w2 (n + 1 + 1) 2 _ 40 q
  have p3 := frozen_of_row w2 (n + 1 + 1) 3 _ 40 q
  have p4 := frozen_of_row w2 (n + 1 + 1) 4 _ 40 q
  have p5 := frozen_of_row w2 (n + 1 + 1) 5 _ 40 q
  rw [← hw2]
  clear hw2 a0 a1 a2 a3 a4 a5 b2 b3 b5 f2 f3 HW q hmx hmy hr
  go_wp2_with fail
  have h0 : w.heap.size ≤ n := by rw [HN.out]; exact Nat.le_refl _
  have h2 : w.heap.size ≤ n + 1 + 1 := by omega
  exact bodyPost_ret (v := .agg #[.int .i64 k, .string t, .int .i64 mx, .int .i64 my, .int .i64 (r - mx), .int .i64 (c + c2)]) (by simp [results, Tryd.results32, go_sem, q0, q1, q2, q3, q4, q5]) rfl ⟨rfl, (((((((B2.out.setCell h0 _).setCell h0 _).setCell h2 _).setCell h2 _).setCell h2 _).setCell h2 _).setCell h2 _).setCell h2 _⟩

end Go.Proofs.YtmloidgeolgpdaaDoor
namespace Go.Proofs.YtmloidgeolgpdaaDoor
open Go.RowKit
set_option linter.unusedSimpArgs false
set_option linter.unusedVariables false

def flatC : List Cd → List Value
  | [] => []
  | t :: T => cdV t ++ flatC T
theorem flatC_app (T U : List Cd) : flatC (T ++ U) = flatC T ++ flatC U := by
  induction T with
  | nil => rfl
  | cons t T ih => rw [List.cons_append, flatC, flatC, ih, List.append_assoc]
theorem flatC_snoc (T : List Cd) (b : Cd) : flatC T ++ cdV b = flatC (T ++ [b]) := by rw [flatC_app]; simp [flatC]
theorem flatC_len (T : List Cd) : (flatC T).length = T.length * 6 := by
  induction T with
  | nil => rfl
  | cons t T ih => rw [flatC, List.length_append, ih]; simp [cdV]; omega
theorem flatC_get (T : List Cd) (i j : Nat) (hi : i < T.length) (hj : j < 6) : (flatC T)[i * 6 + j]? = (cdV (T.getD i default))[j]? := by
  induction T generalizing i with
  | nil => simp at hi
  | cons t T ih =>
    rw [flatC]
    cases i with
    | zero => rw [List.getElem?_append_left (by simp [cdV]; omega)]; simp
    | succ i =>
      rw [show (i + 1) * 6 + j = (i * 6 + j) + 6 by omega, List.getElem?_append_right (by simp [cdV])]
      rw [show i * 6 + j + 6 - (cdV t).length = i * 6 + j by simp [cdV]]
      rw [ih i (by simpa using hi)]
      simp
theorem flatC_set (T : List Cd) (i : Nat) (x : Cd) (hi : i < T.length) :
    ((((((flatC T).set (i * 6) (.int .i64 x.k)).set (i * 6 + 1) (.string x.t)).set (i * 6 + 2) (.int .i64 x.x)).set (i * 6 + 3) (.int .i64 x.y)).set (i * 6 + 4) (.int .i64 x.w)).set (i * 6 + 5) (.int .i64 x.c) = flatC (T.set i x) := by
  induction T generalizing i with
  | nil => simp at hi
  | cons t T ih =>
    cases i with
    | zero => simp [flatC, cdV]
    | succ i =>
      have := ih i (by simpa using hi)
      rw [List.set_cons_succ, flatC, flatC, ← this]
      simp only [cdV, List.cons_append, List.nil_append]
      rw [show (i + 1) * 6 = i * 6 + 6 by omega]
      rfl

def CdRow (w : World) (N : Nat) (T : List Cd) (v : Value) : Prop := w.ownsRow N 40 6 v T.length (flatC T)
theorem CdRow.nil (w : World) (N : Nat) : CdRow w N [] (.slice none 0 0) := World.ownsRow_nil _ _ _ _
theorem CdRow.later {w w' : World} {N : Nat} {T : List Cd} {v : Value} (h : CdRow w N T v) (hb : Below w.heap.size w w') : CdRow w' N T v := below_owns h hb
theorem CdRow.alloc {w : World} {N : Nat} {T : List Cd} {v : Value} (h : CdRow w N T v) (o : Obj) : CdRow (w.alloc o) N T v := World.ownsRow.alloc h o
theorem CdRow.isSome {w : World} {N : Nat} {T : List Cd} {v : Value} (h : CdRow w N T v) (hT : 0 < T.length) : ∃ g c, v = .slice (some ⟨g, 0, none⟩) T.length c ∧ N ≤ g ∧ g < w.heap.size ∧ T.length ≤ c := by
  rcases h.2 with ⟨h0, h1⟩ | ⟨g, cap, cur, h0, h1, h2, h3, _⟩
  · omega
  · exact ⟨g, cap, h0, h1, (Array.getElem?_eq_some_iff.1 h2).1, h3⟩
theorem CdRow.shape {w : World} {N : Nat} {T : List Cd} {v : Value} (h : CdRow w N T v) : ∃ a c, v = .slice a T.length c := by
  rcases h.2 with ⟨h0, h1⟩ | ⟨g, cap, cur, h0, _⟩
  · exact ⟨none, 0, by rw [h0, h1]⟩
  · exact ⟨_, cap, h0⟩
theorem CdRow.at {w : World} {N g c : Nat} {T : List Cd} (h : CdRow w N T (.slice (some ⟨g, 0, none⟩) T.length c)) (i : Nat) (hi : i < T.length) : CodeAt w g (i * 6) (T.getD i default) := by
  have f : ∀ j, j < 6 → w.cell? ⟨g, i * 6 + j, none⟩ = (cdV (T.getD i default))[j]? := fun j hj => (World.ownsRow.cellAt h (i * 6 + j) (by omega)).trans (flatC_get T i j hi hj)
  exact ⟨f 0 (by omega), f 1 (by omega), f 2 (by omega), f 3 (by omega), f 4 (by omega), f 5 (by omega)⟩
theorem CdRow.block {w : World} {N g c n : Nat} {T : List Cd} (h : CdRow w N T (.slice (some ⟨g, 0, none⟩) n c)) : ∃ cur, w.heap[g]? = some (.cells cur 40 (0, 0)) := by
  rcases h.2 with ⟨h0, h1⟩ | ⟨g', cap, cur, h0, h1, h2, h3, _⟩
  · cases h0
  · cases h0; exact ⟨cur, h2⟩

def set6 (w : World) (g o : Nat) (x : Cd) : World :=
  (((((w.setCell ⟨g, o, none⟩ (.int .i64 x.k)).setCell ⟨g, o + 1, none⟩ (.string x.t)).setCell ⟨g, o + 2, none⟩ (.int .i64 x.x)).setCell ⟨g, o + 3, none⟩ (.int .i64 x.y)).setCell ⟨g, o + 4, none⟩ (.int .i64 x.w)).setCell ⟨g, o + 5, none⟩ (.int .i64 x.c)
theorem set6_grown (w : World) (g o : Nat) (x : Cd) : w.grownBy (set6 w g o x) (some g) := by
  have f : ∀ (W : World) (o : Nat) (v : Value), W.grownBy (W.setCell ⟨g, o, none⟩ v) (some g) := fun W o v => ⟨rfl, rfl, rfl, (by simp), fun k _ hk => Below.heap_setCell _ _ _ k (fun e => hk (by rw [e]))⟩
  have t : ∀ {a b c : World}, a.grownBy b (some g) → b.grownBy c (some g) → a.grownBy c (some g) := fun {a b c} h k => ⟨k.os.trans h.os, k.tape.trans h.tape, k.output.trans h.output, Nat.le_trans h.size k.size, fun i hi hn => (k.block i (Nat.lt_of_lt_of_le hi h.size) hn).trans (h.block i hi hn)⟩
  exact t (t (t (t (t (f _ _ _) (f _ _ _)) (f _ _ _)) (f _ _ _)) (f _ _ _)) (f _ _ _)
theorem CdRow.set {w : World} {N g c : Nat} {T : List Cd} (h : CdRow w N T (.slice (some ⟨g, 0, none⟩) T.length c)) (i : Nat) (hi : i < T.length) (x : Cd) :
    CdRow (set6 w g (i * 6) x) N (T.set i x) (.slice (some ⟨g, 0, none⟩) T.length c) := by
  rcases h.2 with ⟨h0, h1⟩ | ⟨g', cap, cur, h0, h1, h2, h3, h4, h5, h6⟩
  · cases h0
  · cases h0
    have e1 := heap_setCell_same w g (i * 6) cur 40 (.int .i64 x.k) h2
    have e2 := heap_setCell_same _ g (i * 6 + 1) _ 40 (.string x.t) e1
    have e3 := heap_setCell_same _ g (i * 6 + 2) _ 40 (.int .i64 x.x) e2
    have e4 := heap_setCell_same _ g (i * 6 + 3) _ 40 (.int .i64 x.y) e3
    have e5 := heap_setCell_same _ g (i * 6 + 4) _ 40 (.int .i64 x.w) e4
    have e6 := heap_setCell_same _ g (i * 6 + 5) _ 40 (.int .i64 x.c) e5
    refine ⟨by rw [flatC_len], .inr ⟨g, c, _, by rw [List.length_set], h1, e6, by rw [List.length_set]; exact h3, h4, by simpa using h5, ?_⟩⟩
    rw [← flatC_set T i x hi, ← h6, List.length_set]
    simp [List.take_set]

theorem info_code : (Tryd.prog.info? 40).map (fun i => (i.zero, i.size, i.bytes)) = some (some (.agg #[.int .i64 0, .string ⟨#[]⟩, .int .i64 0, .int .i64 0, .int .i64 0, .int .i64 0]), 6, 56) := by kernel_rfl

theorem code_new (w : World) (x : Cd) (t : TypeId) : ∀ j u, (cdV x)[j]? = some u → (w.alloc (.cells (cdV x).toArray t)).cell? ((⟨w.heap.size, 0, none⟩ : Addr).add j) = some u := by
  intro j u hu
  have hj : j < 6 := by have := (List.getElem?_eq_some_iff.1 hu).1; simpa [cdV] using this
  rw [Addr.add_lit, World.cell?_alloc_at _ _ _ _ rfl, Nat.zero_add]
  simpa using hu

end Go.Proofs.YtmloidgeolgpdaaDoor
namespace Go.Proofs.YtmloidgeolgpdaaDoor
open Go.RowKit Go.Sort
set_option linter.unusedSimpArgs false
set_option linter.unusedVariables false

theorem bs_irrefl : ∀ x : List UInt8, Op.bytesLess x x = false
  | [] => rfl
  | a :: x => by simp [Op.bytesLess, bs_irrefl x]
theorem bs_total : ∀ x y : List UInt8, Op.bytesLess x y = false → Op.bytesLess y x = false → x = y
  | [], [], _, _ => rfl
  | [], _ :: _, h, _ => by simp [Op.bytesLess] at h
  | _ :: _, [], _, h => by simp [Op.bytesLess] at h
  | a :: x, b :: y, h1, h2 => by
    simp only [Op.bytesLess, Bool.or_eq_false_iff, decide_eq_false_iff_not, Bool.and_eq_false_iff, beq_eq_false_iff_ne] at h1 h2
    have hab : a = b := by
      have h3 := h1.1; have h4 := h2.1
      apply UInt8.toNat_inj.1
      rw [UInt8.lt_iff_toNat_lt] at h3 h4
      omega
    subst hab
    rw [bs_total x y (h1.2.resolve_left (by simp)) (h2.2.resolve_left (by simp))]
theorem bs_trans : ∀ x y z : List UInt8, Op.bytesLess x y = true → Op.bytesLess y z = true → Op.bytesLess x z = true
  | _, [], _, h, _ => by cases ‹List UInt8› <;> simp [Op.bytesLess] at h
  | _, _ :: _, [], _, h => by simp [Op.bytesLess] at h
  | [], _ :: _, _ :: _, _, _ => rfl
  | a :: x, b :: y, c :: z, h1, h2 => by
    simp only [Op.bytesLess, Bool.or_eq_true, decide_eq_true_eq, Bool.and_eq_true, beq_iff_eq] at h1 h2 ⊢
    rcases h1 with h1 | ⟨rfl, h1⟩ <;> rcases h2 with h2 | ⟨rfl, h2⟩
    · exact .inl (UInt8.lt_trans h1 h2)
    · exact .inl h1
    · exact .inl h2
    · exact .inr ⟨rfl, bs_trans x y z h1 h2⟩
/-- Texts compared. -/
def cbs (a b : ByteArray) : Int := if Op.bytesLess a.data.toList b.data.toList = true then -1 else if Op.bytesLess b.data.toList a.data.toList = true then 1 else 0

theorem cmpInt_any (a b : Int) (w : World) : Calls Tryd.prog 36 #[.int .i64 a, .int .i64 b] w fun e w' => e = .returned (.int .i64 (Lib.compareInt a b)) ∧ w = w' := by
  have arm : ∀ x w, Calls Tryd.prog 62 #[.int .i64 x] w fun e w' => e = .returned (.bool false) ∧ w = w' := fun x w => by
    have hx : (x != x) = false := by simp
    go_enter Tryd.func62, Tryd.ntmps62
    go_wp2_with fail
    go_ret
    exact ⟨rfl, rfl⟩
  by_cases h1 : a < b
  · have HV := Lib.hid (show Lib.compareInt a b = -1 by unfold Lib.compareInt; rw [if_pos h1])
    go_enter Tryd.func36, Tryd.ntmps36
    go_wp2_with (first | (go_at_call 62; (with_reducible refine (arm _ _).mono ?_); rintro e w' ⟨rfl, rfl⟩))
    go_ret
    exact ⟨ret_int HV.out.symm, rfl⟩
  · by_cases h2 : b < a
    · have HV := Lib.hid (show Lib.compareInt a b = 1 by unfold Lib.compareInt; rw [if_neg h1, if_pos h2])
      go_enter Tryd.func36, Tryd.ntmps36
      go_wp2_with (first | (go_at_call 62; (with_reducible refine (arm _ _).mono ?_); rintro e w' ⟨rfl, rfl⟩))
      go_ret
      exact ⟨ret_int HV.out.symm, rfl⟩
    · have HV := Lib.hid (show Lib.compareInt a b = 0 by unfold Lib.compareInt; rw [if_neg h1, if_neg h2])
      go_enter Tryd.func36, Tryd.ntmps36
      go_wp2_with (first | (go_at_call 62; (with_reducible refine (arm _ _).mono ?_); rintro e w' ⟨rfl, rfl⟩))
      go_ret
      exact ⟨ret_int HV.out.symm, rfl⟩

theorem cmpStr_any (a b : ByteArray) (w : World) : Calls Tryd.prog 37 #[.string a, .string b] w fun e w' => e = .returned (.int .i64 (cbs a b)) ∧ w = w' := by
  have arm : ∀ x w, Calls Tryd.prog 63 #[.string x] w fun e w' => e = .returned (.bool false) ∧ w = w' := fun x w => by
    go_enter Tryd.func63, Tryd.ntmps63
    go_wp2_with fail
    go_ret
    exact ⟨by simp, rfl⟩
  cases h1 : Op.bytesLess a.data.toList b.data.toList
  · cases h2 : Op.bytesLess b.data.toList a.data.toList
    · have HV := Lib.hid (show cbs a b = 0 by unfold cbs; rw [h1, h2]; rfl)
      have h1' : Op.bytesLess a.toList b.toList = false := by rw [Lib.toList_data, Lib.toList_data]; exact h1
      have h3 : (a.toList == b.toList) = true := by rw [Lib.toList_data, Lib.toList_data, bs_total _ _ h1 h2]; simp
      go_enter Tryd.func37, Tryd.ntmps37
      go_wp2_with (first | (go_at_call 63; (with_reducible refine (arm _ _).mono ?_); rintro e w' ⟨rfl, rfl⟩))
      go_ret
      exact ⟨ret_int HV.out.symm, rfl⟩
    · have HV := Lib.hid (show cbs a b = 1 by unfold cbs; rw [h1, h2]; rfl)
      have h1' : Op.bytesLess a.toList b.toList = false := by rw [Lib.toList_data, Lib.toList_data]; exact h1
      have h3 : (a.toList == b.toList) = false := by
        rw [Lib.toList_data, Lib.toList_data, beq_eq_false_iff_ne]
        intro e; rw [e, bs_irrefl] at h2; cases h2
      go_enter Tryd.func37, Tryd.ntmps37
      go_wp2_with (first | (go_at_call 63; (with_reducible refine (arm _ _).mono ?_); rintro e w' ⟨rfl, rfl⟩))
      go_ret
      exact ⟨ret_int HV.out.symm, rfl⟩
  · have HV := Lib.hid (show cbs a b = -1 by unfold cbs; rw [h1]; rfl)
    have h1' : Op.bytesLess a.toList b.toList = true := by rw [Lib.toList_data, Lib.toList_data]; exact h1
    go_enter Tryd.func37, Tryd.ntmps37
    go_wp2_with (first | (go_at_call 63; (with_reducible refine (arm _ _).mono ?_); rintro e w' ⟨rfl, rfl⟩))
    go_ret
    exact ⟨ret_int HV.out.symm, rfl⟩

theorem or_any (b : Nat) (xs : List Int) (w : World) (hn : xs.length ≤ 1000) (hc : ∀ j, j < xs.length → w.cell? ⟨b, j, none⟩ = some (.int .i64 (xs.getD j 0))) :
    Calls Tryd.prog 35 #[.slice (some ⟨b, 0, none⟩) xs.length xs.length] w fun r w' => r = .returned (.int .i64 (firstOf xs)) ∧ w = w' := by
  go_enter Tryd.func35, Tryd.ntmps35
  go_wp2
  go_loop [8] (fun i => ∃ k : Nat, k ≤ xs.length ∧ i = .int .i64 k ∧ firstOf (xs.drop k) = firstOf xs) (fun i => xs.length - (intOf i).toNat)
  case atStart => exact ⟨0, Nat.zero_le _, rfl, rfl⟩
  case round =>
    obtain ⟨k, hk, rfl, hf⟩ := hrel
    by_cases hlt : k < xs.length
    · have hcell := hc k hlt
      have hd := firstOf_drop xs k hlt
      generalize xs.getD k 0 = x at hcell hd
      have HD := Lib.hid hd
      have HF := Lib.hid hf
      clear hf hc hd
      by_cases hz : x = 0
      · subst hz
        go_wp2
        go_round
        case rel => exact ⟨k + 1, by omega, by go_num, by rw [← HF.out, HD.out, if_pos rfl]⟩
        case measure => simp [intOf]; omega
      · have HZ := Lib.hid hz
        have hz' : (x != 0) = true := by simpa using hz
        clear hz
        go_wp2
        go_ret
        exact ⟨ret_int (by rw [← HF.out, HD.out, if_neg HZ.out]), rfl⟩
    · have HF := Lib.hid hf
      clear hf
      go_wp2
      go_ret
      exact ⟨ret_int (by rw [← HF.out, List.drop_eq_nil_of_le (by omega)]; rfl), rfl⟩

def or4 (a b c d : Int) : Int := firstOf [a, b, c, d]
theorem or4_new (a b c d : Int) (w : World) :
    Calls Tryd.prog 35 #[.slice (some ⟨w.heap.size, 0, none⟩) 4 4] (w.alloc (.cells #[.int .i64 a, .int .i64 b, .int .i64 c, .int .i64 d] 3)) fun r w' => r = .returned (.int .i64 (or4 a b c d)) ∧ w.alloc (.cells #[.int .i64 a, .int .i64 b, .int .i64 c, .int .i64 d] 3) = w' := by
  refine or_any w.heap.size [a, b, c, d] _ (by simp) ?_
  intro j hj
  match j, hj with
  | 0, _ => rw [World.cell?_alloc_at _ _ _ _ rfl]; rfl
  | 1, _ => rw [World.cell?_alloc_at _ _ _ _ rfl]; rfl
  | 2, _ => rw [World.cell?_alloc_at _ _ _ _ rfl]; rfl
  | 3, _ => rw [World.cell?_alloc_at _ _ _ _ rfl]; rfl

theorem cs_cb (a b : ByteArray) : Lib.compareBytes a.data.toList b.data.toList = cbs a b := by
  have : ∀ x y : List UInt8, Lib.compareBytes x y = if Op.bytesLess x y = true then -1 else if Op.bytesLess y x = true then 1 else 0 := by
    intro x
    induction x with
    | nil => intro y; cases y <;> simp [Lib.compareBytes, Op.bytesLess]
    | cons p x ih =>
      intro y
      cases y with
      | nil => simp [Lib.compareBytes, Op.bytesLess]
      | cons q y =>
        rw [Lib.compareBytes, Op.bytesLess, Op.bytesLess, ih y]
        by_cases h : p < q
        · simp [h]
        · by_cases h2 : q < p
          · have : p ≠ q := fun e => by subst e; exact h h2
            simp [h, h2, this]
          · have : p = q := by
              apply UInt8.toNat_inj.1
              rw [UInt8.lt_iff_toNat_lt] at h h2
              omega
            subst this
            simp [h]
  exact this _ _

theorem grow3 (W : World) (o1 o2 o3 : Obj) : (((W.alloc o1).alloc o2).drew).alloc o3 = grow (W.drewN 1) (#[o1] ++ #[o2] ++ #[o3]) := by
  rw [alloc_eq_grow, alloc_eq_grow W, alloc_eq_grow, grow_grow, drew_grow, grow_grow]; rfl

/-- How two codes come: by Y, X, text, kind. -/
def cdP (a b : Cd) : Int := or4 (Lib.compareInt a.y b.y) (Lib.compareInt a.x b.x) (cbs a.t b.t) (Lib.compareInt a.k b.k)
def cdR (a b : Cd) : Int := or4 (a.y - b.y) (a.x - b.x) (cbs a.t b.t) (a.k - b.k)

set_option maxHeartbeats 1000000 in
set_option maxRecDepth 100000 in
theorem voteP_any (a b : Cd) (W : World) :
    Calls Tryd.prog 34 #[.agg (cdV a).toArray, .agg (cdV b).toArray] W fun e w' => e = .returned (.int .i64 (cdP a b)) ∧ ∃ q os', w' = grow (W.drewN q) os' := by
  obtain ⟨k, t, x, y, u, c⟩ := a
  obtain ⟨k2, t2, x2, y2, u2, c2⟩ := b
  have HV := Lib.hid (show cdP ⟨k, t, x, y, u, c⟩ ⟨k2, t2, x2, y2, u2, c2⟩ = or4 (Lib.compareInt y y2) (Lib.compareInt x x2) (cbs t t2) (Lib.compareInt k k2) from rfl)
  rw [HV.out]
  unfold cdV
  have C1 := Lib.hid (cmpInt_any y y2)
  have C2 := Lib.hid (cmpInt_any x x2)
  have C3 := Lib.hid (cmpStr_any t t2)
  have C4 := Lib.hid (cmpInt_any k k2)
  clear HV
  generalize Lib.compareInt y y2 = r1 at *
  generalize Lib.compareInt x x2 = r2 at *
  generalize cbs t t2 = r3 at *
  generalize Lib.compareInt k k2 = r4 at *
  go_enter Tryd.func34, Tryd.ntmps34
  go_upto_region 1 with (fail)
  obtain ⟨w1, hw1⟩ : ∃ w1, w1 = (W.alloc (.cells #[.int .i64 k, .string t, .int .i64 x, .int .i64 y, .int .i64 u, .int .i64 c] 40)).alloc (.cells #[.int .i64 k2, .string t2, .int .i64 x2, .int .i64 y2, .int .i64 u2, .int .i64 c2] 40) := ⟨_, rfl⟩
  have a0 : w1.cell? ⟨W.heap.size, 0, none⟩ = some (.int .i64 k) := by rw [hw1]; go_simp
  have a1 : w1.cell? ⟨W.heap.size, 1, none⟩ = some (.string t) := by rw [hw1]; go_simp
  have a2 : w1.cell? ⟨W.heap.size, 2, none⟩ = some (.int .i64 x) := by rw [hw1]; go_simp
  have a3 : w1.cell? ⟨W.heap.size, 3, none⟩ = some (.int .i64 y) := by rw [hw1]; go_simp
  have b0 : w1.cell? ⟨W.heap.size + 1, 0, none⟩ = some (.int .i64 k2) := by rw [hw1]; go_simp
  have b1 : w1.cell? ⟨W.heap.size + 1, 1, none⟩ = some (.string t2) := by rw [hw1]; go_simp
  have b2 : w1.cell? ⟨W.heap.size + 1, 2, none⟩ = some (.int .i64 x2) := by rw [hw1]; go_simp
  have b3 : w1.cell? ⟨W.heap.size + 1, 3, none⟩ = some (.int .i64 y2) := by rw [hw1]; go_simp
  have HW := Lib.hid hw1
  rw [← hw1]
  clear hw1
  refine wp_region_still_tail 20 (by kernel_rfl) (by kernel_rfl) ?_
  simp only [List.take_succ_cons, List.take_zero, List.drop_succ_cons, List.drop_zero]
  still_step; still_step; still_step; still_step
  still_call (C1.out _).mono (fun _ _ h => ⟨h.1, h.2.symm⟩)
  still_step; still_step; still_step; still_step
  still_call (C2.out _).mono (fun _ _ h => ⟨h.1, h.2.symm⟩)
  still_step; still_step; still_step; still_step
  still_call (C3.out _).mono (fun _ _ h => ⟨h.1, h.2.symm⟩)
  still_step; still_step; still_step; still_step
  still_call (C4.out _).mono (fun _ _ h => ⟨h.1, h.2.symm⟩)
  refine wpStill_nil ?_
  change wpList _ _ _ _ _ w1.drew
  obtain ⟨w2, hw2⟩ : ∃ w2, w2 = w1.drew := ⟨_, rfl⟩
  have HW2 := Lib.hid hw2
  rw [← hw2]
  clear hw2
  go_wp2_with (first | (go_at_call 35; (with_reducible refine (or4_new _ _ _ _ _).mono ?_); rintro e w' ⟨rfl, rfl⟩))
  go_ret
  exact ⟨rfl, 1, _, by rw [HW2.out, HW.out]; exact grow3 _ _ _ _⟩

end Go.Proofs.YtmloidgeolgpdaaDoor
namespace Go.Proofs
open Go.Shelf
def Tryd.lays160_ren : Go.Shelf.Ren := ⟨fun | 160 => 21 | 232 => 44 | 231 => 43 | 227 => 45 | 234 => 47 | 233 => 46 | 236 => 49 | 235 => 48 | 228 => 65 | 271 => 68 | 151 => 67 | 197 => 66 | 120 => 95 | 152 => 94 | 260 => 93 | 137 => 108 | 119 => 109 | 224 => 110 | 225 => 111 | 217 => 118 | 266 => 119 | n => n, fun | 9 => 9 | 4 => 4 | 3 => 3 | 5 => 5 | 117 => 70 | 116 => 69 | 0 => 0 | 124 => 73 | 21 => 21 | 105 => 87 | 46 => 83 | 119 => 95 | 139 => 138 | 138 => 137 | n => n, fun | 3 => 5 | 4 => 6 | n => n⟩
theorem Tryd.lays160 : Go.Proofs.Lays.n160 Tryd.prog Tryd.lays160_ren := {
  mixed := by kernel_rfl
  f119 := Tryd.func109.trans (congrArg some (by kernel_rfl))
  f120 := Tryd.func95.trans (congrArg some (by kernel_rfl))
  f137 := Tryd.func108.trans (congrArg some (by kernel_rfl))
  f151 := Tryd.func67.trans (congrArg some (by kernel_rfl))
  f152 := Tryd.func94.trans (congrArg some (by kernel_rfl))
  f160 := Tryd.func21.trans (congrArg some (by kernel_rfl))
  f197 := Tryd.func66.trans (congrArg some (by kernel_rfl))
  f217 := Tryd.func118.trans (congrArg some (by kernel_rfl))
  f224 := Tryd.func110.trans (congrArg some (by kernel_rfl))
  f225 := Tryd.func111.trans (congrArg some (by kernel_rfl))
  f227 := Tryd.func45.trans (congrArg some (by kernel_rfl))
  f228 := Tryd.func65.trans (congrArg some (by kernel_rfl))
  f231 := Tryd.func43.trans (congrArg some (by kernel_rfl))
  f232 := Tryd.func44.trans (congrArg some (by kernel_rfl))
  f233 := Tryd.func46.trans (congrArg some (by kernel_rfl))
  f234 := Tryd.func47.trans (congrArg some (by kernel_rfl))
  f235 := Tryd.func48.trans (congrArg some (by kernel_rfl))
  f236 := Tryd.func49.trans (congrArg some (by kernel_rfl))
  f260 := Tryd.func93.trans (congrArg some (by kernel_rfl))
  f266 := Tryd.func119.trans (congrArg some (by kernel_rfl))
  f271 := Tryd.func68.trans (congrArg some (by kernel_rfl))
  t0 := Tryd.underlying0
  a0 := Tryd.isAgg0
  z0 := Tryd.sizeOf0
  v0 := Tryd.zeroValue0
  t3 := Tryd.underlying3
  a3 := Tryd.isAgg3
  z3 := Tryd.sizeOf3
  v3 := Tryd.zeroValue3
  t4 := Tryd.underlying4
  a4 := Tryd.isAgg4
  z4 := Tryd.sizeOf4
  v4 := Tryd.zeroValue4
  t5 := Tryd.underlying5
  a5 := Tryd.isAgg5
  z5 := Tryd.sizeOf5
  v5 := Tryd.zeroValue5
  t9 := Tryd.underlying9
  a9 := Tryd.isAgg9
  z9 := Tryd.sizeOf9
  v9 := Tryd.zeroValue9
  t21 := Tryd.underlying21
  a21 := Tryd.isAgg21
  z21 := Tryd.sizeOf21
  v21 := Tryd.zeroValue21
  t46 := Tryd.underlying83
  a46 := Tryd.isAgg83
  z46 := Tryd.sizeOf83
  v46 := Tryd.zeroValue83
  t105 := Tryd.underlying87
  a105 := Tryd.isAgg87
  z105 := Tryd.sizeOf87
  v105 := Tryd.zeroValue87
  t116 := Tryd.underlying69
  a116 := Tryd.isAgg69
  z116 := Tryd.sizeOf69
  t117 := Tryd.underlying70
  a117 := Tryd.isAgg70
  z117 := Tryd.sizeOf70
  v117 := Tryd.zeroValue70
  t119 := Tryd.underlying95
  a119 := Tryd.isAgg95
  z119 := Tryd.sizeOf95
  t124 := Tryd.underlying73
  a124 := Tryd.isAgg73
  z124 := Tryd.sizeOf73
  v124 := Tryd.zeroValue73
  t138 := Tryd.underlying137
  a138 := Tryd.isAgg137
  z138 := Tryd.sizeOf137
  v138 := Tryd.zeroValue137
  t139 := Tryd.underlying138
  a139 := Tryd.isAgg138
  z139 := Tryd.sizeOf138
  v139 := Tryd.zeroValue138
  g3 := by kernel_rfl
  g4 := by kernel_rfl }
def Tryd.lays106_ren : Go.Shelf.Ren := ⟨fun | 106 => 42 | 213 => 64 | 265 => 92 | n => n, fun | 9 => 9 | 3 => 3 | n => n, fun | n => n⟩
theorem Tryd.lays106 : Go.Proofs.Lays.n106 Tryd.prog Tryd.lays106_ren := {
  mixed := by kernel_rfl
  f106 := Tryd.func42.trans (congrArg some (by kernel_rfl))
  f213 := Tryd.func64.trans (congrArg some (by kernel_rfl))
  f265 := Tryd.func92.trans (congrArg some (by kernel_rfl))
  t3 := Tryd.underlying3
  a3 := Tryd.isAgg3
  z3 := Tryd.sizeOf3
  v3 := Tryd.zeroValue3
  t9 := Tryd.underlying9
  a9 := Tryd.isAgg9
  z9 := Tryd.sizeOf9
  v9 := Tryd.zeroValue9 }
open Go.RowKit in
/-- strings.Compare: "Compare returns an integer comparing two strings lexicographically. The result will be 0 if a == b, -1 if a < b, and +1 if a > b.": IT RETURNS 'Lib.compareBytes a b'; the world is as it was. (LAID: no walk: one application.) -/
theorem Tryd.strings_Compare (a b : ByteArray) (w : World) :
    Calls Tryd.prog 42 #[.string a, .string b] w fun e w' => e = .returned (.int .i64 (Lib.compareBytes a.data.toList b.data.toList)) ∧ w' = w := Any.strings_Compare Tryd.lays106 a b w
def Tryd.idxC_ren : Go.Shelf.Ren := ⟨fun | 6 => 39 | n => n, fun | 22 => 34 | 23 => 40 | 25 => 65 | 3 => 3 | 0 => 0 | 4 => 4 | n => n, fun | n => n⟩
theorem Tryd.idxC : Go.Proofs.SlLaysH0.n6 Tryd.prog Tryd.idxC_ren := {
  mixed := by kernel_rfl
  f6 := ⟨Tryd.f39.name, by decide, Tryd.func39.trans (congrArg some (by kernel_rfl))⟩
  t0 := Tryd.underlying0
  a0 := Tryd.isAgg0
  z0 := Tryd.sizeOf0
  v0 := Tryd.zeroValue0
  t3 := Tryd.underlying3
  a3 := Tryd.isAgg3
  z3 := Tryd.sizeOf3
  v3 := Tryd.zeroValue3
  t4 := Tryd.underlying4
  a4 := Tryd.isAgg4
  z4 := Tryd.sizeOf4
  v4 := Tryd.zeroValue4
  t22 := Tryd.underlying34
  a22 := Tryd.isAgg34
  z22 := Tryd.sizeOf34
  v22 := Tryd.zeroValue34
  t25 := Tryd.underlying65
  a25 := Tryd.isAgg65
  z25 := Tryd.sizeOf65
  v25 := Tryd.zeroValue65 }
end Go.Proofs
