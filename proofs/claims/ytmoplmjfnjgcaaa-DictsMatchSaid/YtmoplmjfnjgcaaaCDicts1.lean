/-
  What dicts_holds leans on: contracts of the functions that it calls.
-/
import Derived.Test.YtmoplmjfnjgcaaaRows
import Derived.WalkKit
import Derived.WalkSpells
import Derived.WalkLawsBesides
import Derived.Lib.Hide
import Derived.Deep.RegionHeld3
import Derived.Shelf.Abstract
import Derived.Lib.TrimByte
import Derived.Shelf.Sort.Plain
import Derived.Shelf.Slices.In.SortNone
import Derived.Shelf.Small.Strs
import Derived.Shelf.Strings.Prefix
import Derived.Shelf.Slices.Equal
import Derived.Shelf.Slices.Empties2
import Derived.Shelf.Spec.SearchS
import Derived.Ground.Names2Prog
import Derived.Shelf.SlSortCmp.NoneTotal
import Derived.Ground.SlsfProg
import Derived.Test.YtmoplmjfnjgcaaaProg
import Derived.ProofKit
import Derived.OpenShut
import Derived.ShutString
import Derived.ChangeOld
import Derived.Lib.SmallJoins
import Derived.Deep.Grids
import Derived.Maps.OwnOps
import Derived.Maps.OwnSet
import Derived.StringKeys
import Derived.Deep.CutBlock
namespace Go.Proofs.Ytmoplmjfnjgcaaa
open Go.RowKit
set_option linter.unusedSimpArgs false
set_option linter.unusedVariables false

theorem ret_int {k : IntKind} {a b : Int} (h : a = b) : Ending.returned (.int k a) = .returned (.int k b) := by rw [h]
theorem ret_bool {a b : Bool} (h : a = b) : Ending.returned (.bool a) = .returned (.bool b) := by rw [h]

theorem outside_no (n a b : Int) (w : World) (h : a ≤ n ∧ n ≤ b) : Calls Try.prog 29 #[.int .i64 n, .int .i64 a, .int .i64 b] w fun r w' => r = .returned (.bool false) ∧ w = w' := by
  obtain ⟨h1, h2⟩ := h
  have h3 : ¬ n < a := by omega
  have h4 : ¬ b < n := by omega
  go_enter Try.func29, Try.ntmps29
  go_wp2
  go_ret
  exact ⟨rfl, rfl⟩
theorem outside_yes (n a b : Int) (w : World) (h : ¬ (a ≤ n ∧ n ≤ b)) : Calls Try.prog 29 #[.int .i64 n, .int .i64 a, .int .i64 b] w fun r w' => r = .returned (.bool true) ∧ w = w' := by
  by_cases h1 : n < a
  · clear h
    go_enter Try.func29, Try.ntmps29
    go_wp2
    go_ret
    exact ⟨rfl, rfl⟩
  · have h4 : b < n := by omega
    clear h
    go_enter Try.func29, Try.ntmps29
    go_wp2
    go_ret
    exact ⟨rfl, rfl⟩
/-- The error of a size. -/
def sizeErr (w h : Int) : Int := if w < 1 ∨ h < 1 ∨ 4000 < w ∨ 4000 < h then 3 else if 1048576 < w * h then 4 else 0

end Go.Proofs.Ytmoplmjfnjgcaaa
namespace Go.Proofs.Ytmoplmjfnjgcaaa
open Go.RowKit
set_option linter.unusedSimpArgs false
set_option linter.unusedVariables false

theorem new_below (w : World) (o : Obj) : Below w.heap.size w (w.alloc o) := (Below.refl _ _).alloc (Nat.le_refl _) _
theorem below_alloc {w a : World} (h : Below w.heap.size w a) (o : Obj) : Below w.heap.size w (a.alloc o) := h.alloc h.size o

/-- The error of a page: of its size, else of the number of its pixels. -/
def pageErr (a b : Int) (n : Nat) : Int := if sizeErr a b = 0 then (if (n : Int) = a * b then 0 else 2) else sizeErr a b

end Go.Proofs.Ytmoplmjfnjgcaaa
namespace Go.Proofs.Ytmoplmjfnjgcaaa
open Go.RowKit
set_option linter.unusedSimpArgs false
set_option linter.unusedVariables false

theorem below_owns {w w' : World} {base : Nat} {e : TypeId} {size : Nat} {v : Value} {n : Nat} {xs : List Value} (h : w.ownsRow base e size v n xs) (hb : Below w.heap.size w w') : w'.ownsRow base e size v n xs :=
  h.kept (row := none) ⟨hb.os, hb.tape, hb.output, hb.size, fun k hk _ => hb.block k hk⟩ (by cases v.ownBlock <;> simp)

theorem below_drewN {B : Nat} {a w : World} (h : Below B a w) (q : Nat) : Below B a (w.drewN q) := ⟨h.os, h.tape, h.output, h.size, h.block⟩

theorem grown_block {w w' : World} {b : Nat} {o : Obj} {row : Option Nat} (hg : w.grownBy w' row) (h : w.heap[b]? = some o) (hne : some b ≠ row) : w'.heap[b]? = some o :=
  (hg.block b (Array.getElem?_eq_some_iff.1 h).1 hne).trans h

end Go.Proofs.Ytmoplmjfnjgcaaa
namespace Go.Proofs.Ytmoplmjfnjgcaaa
open Go.RowKit
set_option linter.unusedSimpArgs false
set_option linter.unusedVariables false

def smB (c : Int) : Bool := decide (97 ≤ c ∧ c ≤ 122)
def dgB (c : Int) : Bool := decide (48 ≤ c ∧ c ≤ 57)

theorem isSmall_any (c : Int) (w : World) : Calls Try.prog 49 #[.int .u8 c] w fun e w' => e = .returned (.bool (smB c)) ∧ w = w' := by
  by_cases h1 : 97 ≤ c
  · by_cases h2 : c ≤ 122
    · have H := Lib.hid (show smB c = true from decide_eq_true ⟨h1, h2⟩)
      go_enter Try.func49, Try.ntmps49
      go_wp2
      go_ret
      exact ⟨ret_bool H.out.symm, rfl⟩
    · have H := Lib.hid (show smB c = false from decide_eq_false (fun k => h2 k.2))
      go_enter Try.func49, Try.ntmps49
      go_wp2
      go_ret
      exact ⟨ret_bool H.out.symm, rfl⟩
  · have H := Lib.hid (show smB c = false from decide_eq_false (fun k => h1 k.1))
    go_enter Try.func49, Try.ntmps49
    go_wp2
    go_ret
    exact ⟨ret_bool H.out.symm, rfl⟩

theorem isDigit_any (c : Int) (w : World) : Calls Try.prog 50 #[.int .u8 c] w fun e w' => e = .returned (.bool (dgB c)) ∧ w = w' := by
  by_cases h1 : 48 ≤ c
  · by_cases h2 : c ≤ 57
    · have H := Lib.hid (show dgB c = true from decide_eq_true ⟨h1, h2⟩)
      go_enter Try.func50, Try.ntmps50
      go_wp2
      go_ret
      exact ⟨ret_bool H.out.symm, rfl⟩
    · have H := Lib.hid (show dgB c = false from decide_eq_false (fun k => h2 k.2))
      go_enter Try.func50, Try.ntmps50
      go_wp2
      go_ret
      exact ⟨ret_bool H.out.symm, rfl⟩
  · have H := Lib.hid (show dgB c = false from decide_eq_false (fun k => h1 k.1))
    go_enter Try.func50, Try.ntmps50
    go_wp2
    go_ret
    exact ⟨ret_bool H.out.symm, rfl⟩

/-- The byte at a place, as a number. -/
def byteAt (s : ByteArray) (k : Nat) : Int := ((s.data.toList.getD k 0).toNat : Int)
theorem byteAt_get (s : ByteArray) (k : Nat) (h : k < s.size) : (s[k].toNat : Int) = byteAt s k := by
  unfold byteAt
  rw [List.getD_eq_getElem?_getD, List.getElem?_eq_getElem (by simpa using h)]
  rfl

def goodB (s : ByteArray) (k : Nat) : Bool := smB (byteAt s k) || (decide (k ≠ 0) && (dgB (byteAt s k) || decide (byteAt s k = 45)))
def NameP (s : ByteArray) : Prop := (1 ≤ s.size ∧ s.size ≤ 40) ∧ ∀ k, k < s.size → goodB s k = true

/-- It returns a bool that says whether P. -/
def SaysIf (P : Prop) (w : World) (e : Ending) (w' : World) : Prop := ∃ q, e = .returned (.bool q) ∧ (q = true ↔ P) ∧ w = w'
theorem says_no {P : Prop} {w : World} (h : ¬ P) : SaysIf P w (.returned (.bool false)) w := ⟨false, rfl, by simp [h], rfl⟩
theorem says_yes {P : Prop} {w : World} (h : P) : SaysIf P w (.returned (.bool true)) w := ⟨true, rfl, by simp [h], rfl⟩

theorem good_next {s : ByteArray} {k : Nat} (h : Hid (∀ j, j < k → goodB s j = true)) (hk : Hid (goodB s k = true)) : Hid (∀ j, j < k + 1 → goodB s j = true) :=
  Lib.hid fun j hj => by
    by_cases e : j = k
    · rw [e]; exact hk.out
    · exact h.out j (by omega)

set_option maxHeartbeats 400000 in
theorem isName_any (s : ByteArray) (w : World) (hs : s.size ≤ 9223372036854775807) : Calls Try.prog 27 #[.string s] w (SaysIf (NameP s) w) := by
  by_cases h1 : 1 ≤ s.size
  · by_cases h2 : s.size ≤ 40
    · have d1 : decide ((s.size : Int) < 1) = false := by simp; omega
      have d2 : decide ((40 : Int) < (s.size : Int)) = false := by simp; omega
      have hlt0 : 0 < s.size := by omega
      have E0 := Lib.hid (byteAt_get s 0 hlt0)
      by_cases hb : smB (s[0].toNat : Int) = true
      · have HB := Lib.hid (show smB (byteAt s 0) = true by rw [← E0.out]; exact hb)
        have H1 := Lib.hid h1
        have H2 := Lib.hid h2
        clear h1 h2
        go_enter Try.func27, Try.ntmps27
        go_wp2_with (first | (go_at_call 49; refine (isSmall_any _ _).mono ?_; rintro e w' ⟨rfl, rfl⟩) | (go_at_call 50; refine (isDigit_any _ _).mono ?_; rintro e w' ⟨rfl, rfl⟩))
        clear hb
        go_loop [21] (fun i => ∃ k : Nat, k ≤ s.size ∧ i = .int .i64 k ∧ Hid (∀ j, j < k → goodB s j = true)) (fun i => s.size - (intOf i).toNat)
        case atStart => exact ⟨0, Nat.zero_le _, rfl, fun j hj => by omega⟩
        case round =>
          obtain ⟨k, hk, rfl, hG⟩ := hrel
          by_cases hlt : k < s.size
          · have E := Lib.hid (byteAt_get s k hlt)
            by_cases a1 : smB (s[k].toNat : Int) = true
            · have hg := Lib.hid (show goodB s k = true by unfold goodB; rw [← E.out, a1]; rfl)
              go_wp2_with (first | (go_at_call 49; refine (isSmall_any _ _).mono ?_; rintro e w' ⟨rfl, rfl⟩) | (go_at_call 50; refine (isDigit_any _ _).mono ?_; rintro e w' ⟨rfl, rfl⟩))
              go_round
              case rel => exact ⟨k + 1, by omega, by go_num, good_next hG hg⟩
              case measure => simp [intOf]; omega
            · have a1' : smB (s[k].toNat : Int) = false := by simpa using a1
              have K0 := Lib.hid (show k ≠ 0 from fun e => a1 (by subst e; rw [E.out]; exact HB.out))
              clear a1
              by_cases a2 : dgB (s[k].toNat : Int) = true
              · have hg := Lib.hid (show goodB s k = true by unfold goodB; rw [← E.out, a1', a2]; simp [K0.out])
                go_wp2_with (first | (go_at_call 49; refine (isSmall_any _ _).mono ?_; rintro e w' ⟨rfl, rfl⟩) | (go_at_call 50; refine (isDigit_any _ _).mono ?_; rintro e w' ⟨rfl, rfl⟩))
                go_round
                case rel => exact ⟨k + 1, by omega, by go_num, good_next hG hg⟩
                case measure => simp [intOf]; omega
              · have a2' : dgB (s[k].toNat : Int) = false := by simpa using a2
                clear a2
                by_cases a3 : (s[k].toNat : Int) = 45
                · have a3' : ((s[k].toNat : Int) != 45) = false := by simpa using a3
                  have hg := Lib.hid (show goodB s k = true by unfold goodB; rw [← E.out, a1', a2']; simp [K0.out]; omega)
                  clear a3
                  go_wp2_with (first | (go_at_call 49; refine (isSmall_any _ _).mono ?_; rintro e w' ⟨rfl, rfl⟩) | (go_at_call 50; refine (isDigit_any _ _).mono ?_; rintro e w' ⟨rfl, rfl⟩))
                  go_round
                  case rel => exact ⟨k + 1, by omega, by go_num, good_next hG hg⟩
                  case measure => simp [intOf]; omega
                · have a3' : ((s[k].toNat : Int) != 45) = true := by simpa using a3
                  have hg := Lib.hid (show goodB s k = false by unfold goodB; rw [← E.out, a1', a2']; simp; omega)
                  clear a3
                  go_wp2_with (first | (go_at_call 49; refine (isSmall_any _ _).mono ?_; rintro e w' ⟨rfl, rfl⟩) | (go_at_call 50; refine (isDigit_any _ _).mono ?_; rintro e w' ⟨rfl, rfl⟩))
                  go_ret
                  exact says_no (fun hP => by have := hP.2 k hlt; rw [hg.out] at this; cases this)
          · go_wp2_with (first | (go_at_call 49; refine (isSmall_any _ _).mono ?_; rintro e w' ⟨rfl, rfl⟩) | (go_at_call 50; refine (isDigit_any _ _).mono ?_; rintro e w' ⟨rfl, rfl⟩))
            go_ret
            exact says_yes ⟨⟨H1.out, H2.out⟩, fun j hj => hG.out j (by omega)⟩
      · have hb' : smB (s[0].toNat : Int) = false := by simpa using hb
        have HB := Lib.hid (show goodB s 0 = false by unfold goodB; rw [← E0.out, hb']; rfl)
        clear hb
        go_enter Try.func27, Try.ntmps27
        go_wp2_with (first | (go_at_call 49; refine (isSmall_any _ _).mono ?_; rintro e w' ⟨rfl, rfl⟩) | (go_at_call 50; refine (isDigit_any _ _).mono ?_; rintro e w' ⟨rfl, rfl⟩))
        go_ret
        exact says_no (fun hP => by have := hP.2 0 hlt0; rw [HB.out] at this; cases this)
    · go_enter Try.func27, Try.ntmps27
      go_wp2_with (first | (go_at_call 49; refine (isSmall_any _ _).mono ?_; rintro e w' ⟨rfl, rfl⟩) | (go_at_call 50; refine (isDigit_any _ _).mono ?_; rintro e w' ⟨rfl, rfl⟩))
      go_ret
      exact says_no (fun hP => by have := hP.1; omega)
  · go_enter Try.func27, Try.ntmps27
    go_wp2_with (first | (go_at_call 49; refine (isSmall_any _ _).mono ?_; rintro e w' ⟨rfl, rfl⟩) | (go_at_call 50; refine (isDigit_any _ _).mono ?_; rintro e w' ⟨rfl, rfl⟩))
    go_ret
    exact says_no (fun hP => by have := hP.1; omega)

end Go.Proofs.Ytmoplmjfnjgcaaa
namespace Go.Proofs.Ytmoplmjfnjgcaaa
open Go.RowKit
set_option linter.unusedSimpArgs false
set_option linter.unusedVariables false

def grB (c : Int) : Bool := decide (65 ≤ c ∧ c ≤ 90)
def letB (c : Int) : Bool := smB c || grB c || decide (128 ≤ c)
def inwB (c : Int) : Bool := letB c || decide (c = 39)

theorem byteAt_end (s : ByteArray) (k : Nat) (h : s.size ≤ k) : byteAt s k = 0 := by
  unfold byteAt
  rw [List.getD_eq_getElem?_getD, List.getElem?_eq_none (by simpa using h)]
  rfl
theorem inw_end (s : ByteArray) : inwB (byteAt s s.size) = false := by rw [byteAt_end s _ (Nat.le_refl _)]; decide

end Go.Proofs.Ytmoplmjfnjgcaaa
namespace Go.Proofs.Ytmoplmjfnjgcaaa
open Go.RowKit
set_option linter.unusedSimpArgs false
set_option linter.unusedVariables false

theorem isSmallW_any (c : Int) (w : World) : Calls Try.prog 76 #[.int .u8 c] w fun e w' => e = .returned (.bool (smB c)) ∧ w = w' := by
  by_cases h1 : 97 ≤ c
  · by_cases h2 : c ≤ 122
    · have H := Lib.hid (show smB c = true from decide_eq_true ⟨h1, h2⟩)
      go_enter Try.func76, Try.ntmps76
      go_wp2
      go_ret
      exact ⟨ret_bool H.out.symm, rfl⟩
    · have H := Lib.hid (show smB c = false from decide_eq_false (fun k => h2 k.2))
      go_enter Try.func76, Try.ntmps76
      go_wp2
      go_ret
      exact ⟨ret_bool H.out.symm, rfl⟩
  · have H := Lib.hid (show smB c = false from decide_eq_false (fun k => h1 k.1))
    go_enter Try.func76, Try.ntmps76
    go_wp2
    go_ret
    exact ⟨ret_bool H.out.symm, rfl⟩

theorem isGreatW_any (c : Int) (w : World) : Calls Try.prog 77 #[.int .u8 c] w fun e w' => e = .returned (.bool (grB c)) ∧ w = w' := by
  by_cases h1 : 65 ≤ c
  · by_cases h2 : c ≤ 90
    · have H := Lib.hid (show grB c = true from decide_eq_true ⟨h1, h2⟩)
      go_enter Try.func77, Try.ntmps77
      go_wp2
      go_ret
      exact ⟨ret_bool H.out.symm, rfl⟩
    · have H := Lib.hid (show grB c = false from decide_eq_false (fun k => h2 k.2))
      go_enter Try.func77, Try.ntmps77
      go_wp2
      go_ret
      exact ⟨ret_bool H.out.symm, rfl⟩
  · have H := Lib.hid (show grB c = false from decide_eq_false (fun k => h1 k.1))
    go_enter Try.func77, Try.ntmps77
    go_wp2
    go_ret
    exact ⟨ret_bool H.out.symm, rfl⟩

theorem isLetter_any (c : Int) (w : World) : Calls Try.prog 57 #[.int .u8 c] w fun e w' => e = .returned (.bool (letB c)) ∧ w = w' := by
  cases hs : smB c
  · cases hg : grB c
    · by_cases h : 128 ≤ c
      · have H := Lib.hid (show letB c = true by unfold letB; rw [hs, hg]; simp [h])
        go_enter Try.func57, Try.ntmps57
        go_wp2_with (first | (go_at_call 76; refine (isSmallW_any _ _).mono ?_; rintro e w' ⟨rfl, rfl⟩) | (go_at_call 77; refine (isGreatW_any _ _).mono ?_; rintro e w' ⟨rfl, rfl⟩))
        go_ret
        exact ⟨ret_bool H.out.symm, rfl⟩
      · have H := Lib.hid (show letB c = false by unfold letB; rw [hs, hg]; simp [h])
        go_enter Try.func57, Try.ntmps57
        go_wp2_with (first | (go_at_call 76; refine (isSmallW_any _ _).mono ?_; rintro e w' ⟨rfl, rfl⟩) | (go_at_call 77; refine (isGreatW_any _ _).mono ?_; rintro e w' ⟨rfl, rfl⟩))
        go_ret
        exact ⟨ret_bool (by rw [H.out]; exact decide_eq_false (by omega)), rfl⟩
    · have H := Lib.hid (show letB c = true by unfold letB; rw [hs, hg]; simp)
      go_enter Try.func57, Try.ntmps57
      go_wp2_with (first | (go_at_call 76; refine (isSmallW_any _ _).mono ?_; rintro e w' ⟨rfl, rfl⟩) | (go_at_call 77; refine (isGreatW_any _ _).mono ?_; rintro e w' ⟨rfl, rfl⟩))
      go_ret
      exact ⟨ret_bool H.out.symm, rfl⟩
  · have H := Lib.hid (show letB c = true by unfold letB; rw [hs]; simp)
    go_enter Try.func57, Try.ntmps57
    go_wp2_with (first | (go_at_call 76; refine (isSmallW_any _ _).mono ?_; rintro e w' ⟨rfl, rfl⟩) | (go_at_call 77; refine (isGreatW_any _ _).mono ?_; rintro e w' ⟨rfl, rfl⟩))
    go_ret
    exact ⟨ret_bool H.out.symm, rfl⟩

/-- The reference's isLetter. -/
theorem isLetterR_any (c : Int) (w : World) : Calls Try.prog 61 #[.int .u8 c] w fun e w' => e = .returned (.bool (letB c)) ∧ w = w' := by
  by_cases a1 : 97 ≤ c
  · by_cases a2 : c ≤ 122
    · have H := Lib.hid (show letB c = true by unfold letB smB grB; simp; omega)
      go_enter Try.func61, Try.ntmps61
      go_wp2
      go_ret
      exact ⟨ret_bool H.out.symm, rfl⟩
    · have b1 : 65 ≤ c := by omega
      have b2 : ¬ c ≤ 90 := by omega
      by_cases a3 : 128 ≤ c
      · have H := Lib.hid (show letB c = true by unfold letB smB grB; simp; omega)
        go_enter Try.func61, Try.ntmps61
        go_wp2
        go_ret
        exact ⟨ret_bool H.out.symm, rfl⟩
      · have H := Lib.hid (show letB c = false by unfold letB smB grB; simp; omega)
        go_enter Try.func61, Try.ntmps61
        go_wp2
        go_ret
        exact ⟨ret_bool H.out.symm, rfl⟩
  · have a5 : ¬ 128 ≤ c := by omega
    by_cases a3 : 65 ≤ c
    · by_cases a4 : c ≤ 90
      · have H := Lib.hid (show letB c = true by unfold letB smB grB; simp; omega)
        go_enter Try.func61, Try.ntmps61
        go_wp2
        go_ret
        exact ⟨ret_bool H.out.symm, rfl⟩
      · have H := Lib.hid (show letB c = false by unfold letB smB grB; simp; omega)
        go_enter Try.func61, Try.ntmps61
        go_wp2
        go_ret
        exact ⟨ret_bool H.out.symm, rfl⟩
    · have H := Lib.hid (show letB c = false by unfold letB smB grB; simp; omega)
      go_enter Try.func61, Try.ntmps61
      go_wp2
      go_ret
      exact ⟨ret_bool H.out.symm, rfl⟩

theorem inWord_any (c : Int) (w : World) : Calls Try.prog 78 #[.int .u8 c] w fun e w' => e = .returned (.bool (inwB c)) ∧ w = w' := by
  cases hl : letB c
  · by_cases h : c = 39
    · have H := Lib.hid (show inwB c = true by unfold inwB; rw [hl]; simp [h])
      have h' : (c == 39) = true := by simp [h]
      clear h
      go_enter Try.func78, Try.ntmps78
      go_wp2_with (first | (go_at_call 57; refine (isLetter_any _ _).mono ?_; rintro e w' ⟨rfl, rfl⟩))
      go_ret
      exact ⟨ret_bool (by rw [H.out]; exact h'), rfl⟩
    · have H := Lib.hid (show inwB c = false by unfold inwB; rw [hl]; simp [h])
      have h' : (c == 39) = false := by simp [h]
      go_enter Try.func78, Try.ntmps78
      go_wp2_with (first | (go_at_call 57; refine (isLetter_any _ _).mono ?_; rintro e w' ⟨rfl, rfl⟩))
      go_ret
      exact ⟨ret_bool (by rw [H.out]; exact h'), rfl⟩
  · have H := Lib.hid (show inwB c = true by unfold inwB; rw [hl]; simp)
    go_enter Try.func78, Try.ntmps78
    go_wp2_with (first | (go_at_call 57; refine (isLetter_any _ _).mono ?_; rintro e w' ⟨rfl, rfl⟩))
    go_ret
    exact ⟨ret_bool H.out.symm, rfl⟩

/-- Where the run from p on ends. -/
def endN (s : ByteArray) : Nat → Nat
  | 0 => s.size
  | m + 1 => if inwB (byteAt s (s.size - (m + 1))) = true then endN s m else s.size - (m + 1)
def endOf (s : ByteArray) (p : Nat) : Nat := endN s (s.size - p)
theorem endN_spec (s : ByteArray) (m : Nat) (hm : m ≤ s.size) : s.size - m ≤ endN s m ∧ endN s m ≤ s.size ∧ (∀ j, s.size - m ≤ j → j < endN s m → inwB (byteAt s j) = true) ∧ inwB (byteAt s (endN s m)) = false := by
  induction m with
  | zero => simp only [endN]; exact ⟨by omega, by omega, fun j h1 h2 => by omega, inw_end s⟩
  | succ m ih =>
    obtain ⟨i1, i2, i3, i4⟩ := ih (by omega)
    rw [endN]
    by_cases h : inwB (byteAt s (s.size - (m + 1))) = true
    · rw [if_pos h]
      refine ⟨by omega, i2, fun j h1 h2 => ?_, i4⟩
      by_cases hj : j = s.size - (m + 1)
      · rw [hj]; exact h
      · exact i3 j (by omega) h2
    · rw [if_neg h]
      exact ⟨by omega, by omega, fun j h1 h2 => by omega, by simpa using h⟩
theorem endOf_spec (s : ByteArray) (p : Nat) (hp : p ≤ s.size) : p ≤ endOf s p ∧ endOf s p ≤ s.size ∧ (∀ j, p ≤ j → j < endOf s p → inwB (byteAt s j) = true) ∧ inwB (byteAt s (endOf s p)) = false := by
  have := endN_spec s (s.size - p) (by omega)
  unfold endOf
  rw [show s.size - (s.size - p) = p by omega] at this
  exact this
theorem endOf_eq (s : ByteArray) (p k : Nat) (hp : p ≤ k) (hk : k ≤ s.size) (h1 : ∀ j, p ≤ j → j < k → inwB (byteAt s j) = true) (h2 : inwB (byteAt s k) = false) : endOf s p = k := by
  obtain ⟨e1, e2, e3, e4⟩ := endOf_spec s p (by omega)
  rcases Nat.lt_trichotomy (endOf s p) k with h | h | h
  · rw [h1 _ e1 h] at e4; simp at e4
  · exact h
  · rw [e3 k hp h] at h2; simp at h2
set_option maxHeartbeats 400000 in
theorem runEnd_any (s : ByteArray) (p : Nat) (w : World) (hp : p ≤ s.size) (hs : s.size ≤ 9223372036854775807) : Calls Try.prog 58 #[.string s, .int .i64 p] w fun e w' => e = .returned (.int .i64 (endOf s p)) ∧ w = w' := by
  go_enter Try.func58, Try.ntmps58
  go_wp2_with fail
  go_loop [1] (fun i => ∃ k : Nat, p ≤ k ∧ k ≤ s.size ∧ i = .int .i64 k ∧ Hid (∀ j, p ≤ j → j < k → inwB (byteAt s j) = true)) (fun i => s.size - (intOf i).toNat)
  case atStart => exact ⟨p, Nat.le_refl _, hp, rfl, Lib.hid (fun j h1 h2 => by omega)⟩
  case round =>
    obtain ⟨k, hpk, hk, rfl, HI⟩ := hrel
    by_cases hlt : k < s.size
    · have i1 : (k : Int) < (s.size : Int) := by omega
      cases hb : inwB (s[k].toNat : Int)
      · have HE := Lib.hid (endOf_eq s p k hpk hk HI.out (by rw [← byteAt_get s k hlt]; exact hb))
        go_wp2_with (first | (go_at_call 78; refine (inWord_any _ _).mono ?_; rintro e w' ⟨rfl, rfl⟩))
        go_ret
        exact ⟨by rw [HE.out]; rfl, rfl⟩
      · have HB := Lib.hid (show inwB (byteAt s k) = true by rw [← byteAt_get s k hlt]; exact hb)
        go_wp2_with (first | (go_at_call 78; refine (inWord_any _ _).mono ?_; rintro e w' ⟨rfl, rfl⟩))
        go_round
        case rel => exact ⟨k + 1, by omega, by omega, by go_num, Lib.hid (fun j h1 h2 => by
          by_cases e : j = k
          · rw [e]; exact HB.out
          · exact HI.out j h1 (by omega))⟩
        case measure => simp [intOf]; omega
    · have i1 : ¬ (k : Int) < (s.size : Int) := by omega
      have HE := Lib.hid (endOf_eq s p k hpk hk HI.out (by rw [show k = s.size by omega]; exact inw_end s))
      go_wp2_with fail
      go_ret
      exact ⟨by rw [HE.out]; rfl, rfl⟩

end Go.Proofs.Ytmoplmjfnjgcaaa
namespace Go.Proofs
open Go.Shelf
def Try.lays190_ren : Go.Shelf.Ren := ⟨fun | 190 => 38 | 125 => 60 | 258 => 59 | 128 => 87 | 129 => 88 | 302 => 79 | 303 => 80 | 304 => 81 | 305 => 82 | 306 => 83 | 307 => 84 | 308 => 65 | 309 => 85 | 310 => 86 | 333 => 105 | 329 => 106 | 330 => 107 | 334 => 108 | 335 => 109 | 336 => 98 | 344 => 114 | n => n, fun | 31 => 45 | 9 => 9 | 3 => 3 | 46 => 112 | 0 => 0 | 51 => 132 | 53 => 134 | 4 => 4 | 183 => 126 | 182 => 125 | 131 => 89 | 5 => 5 | 218 => 144 | 222 => 148 | 228 => 152 | 229 => 153 | n => n, fun | n => n⟩
theorem Try.lays190 : Go.Proofs.Lays.n190 Try.prog Try.lays190_ren := {
  mixed := by kernel_rfl
  f125 := Try.func60.trans (congrArg some (by kernel_rfl))
  f128 := Try.func87.trans (congrArg some (by kernel_rfl))
  f129 := Try.func88.trans (congrArg some (by kernel_rfl))
  f190 := Try.func38.trans (congrArg some (by kernel_rfl))
  f258 := Try.func59.trans (congrArg some (by kernel_rfl))
  f302 := Try.func79.trans (congrArg some (by kernel_rfl))
  f303 := Try.func80.trans (congrArg some (by kernel_rfl))
  f304 := Try.func81.trans (congrArg some (by kernel_rfl))
  f305 := Try.func82.trans (congrArg some (by kernel_rfl))
  f306 := Try.func83.trans (congrArg some (by kernel_rfl))
  f307 := Try.func84.trans (congrArg some (by kernel_rfl))
  f308 := Try.func65.trans (congrArg some (by kernel_rfl))
  f309 := Try.func85.trans (congrArg some (by kernel_rfl))
  f310 := Try.func86.trans (congrArg some (by kernel_rfl))
  f329 := Try.func106.trans (congrArg some (by kernel_rfl))
  f330 := Try.func107.trans (congrArg some (by kernel_rfl))
  f333 := Try.func105.trans (congrArg some (by kernel_rfl))
  f334 := Try.func108.trans (congrArg some (by kernel_rfl))
  f335 := Try.func109.trans (congrArg some (by kernel_rfl))
  f336 := Try.func98.trans (congrArg some (by kernel_rfl))
  f344 := Try.func114.trans (congrArg some (by kernel_rfl))
  t0 := Try.underlying0
  a0 := Try.isAgg0
  z0 := Try.sizeOf0
  v0 := Try.zeroValue0
  t3 := Try.underlying3
  a3 := Try.isAgg3
  z3 := Try.sizeOf3
  v3 := Try.zeroValue3
  t4 := Try.underlying4
  a4 := Try.isAgg4
  z4 := Try.sizeOf4
  v4 := Try.zeroValue4
  t5 := Try.underlying5
  a5 := Try.isAgg5
  z5 := Try.sizeOf5
  v5 := Try.zeroValue5
  t9 := Try.underlying9
  a9 := Try.isAgg9
  z9 := Try.sizeOf9
  v9 := Try.zeroValue9
  t31 := Try.underlying45
  a31 := Try.isAgg45
  z31 := Try.sizeOf45
  v31 := Try.zeroValue45
  t46 := Try.underlying112
  a46 := Try.isAgg112
  z46 := Try.sizeOf112
  v46 := Try.zeroValue112
  t51 := Try.underlying132
  a51 := Try.isAgg132
  z51 := Try.sizeOf132
  v51 := Try.zeroValue132
  t53 := Try.underlying134
  a53 := Try.isAgg134
  z53 := Try.sizeOf134
  v53 := Try.zeroValue134
  t131 := Try.underlying89
  a131 := Try.isAgg89
  z131 := Try.sizeOf89
  v131 := Try.zeroValue89
  t182 := Try.underlying125
  a182 := Try.isAgg125
  z182 := Try.sizeOf125
  v182 := Try.zeroValue125
  t183 := Try.underlying126
  a183 := Try.isAgg126
  z183 := Try.sizeOf126
  v183 := Try.zeroValue126
  t218 := Try.underlying144
  a218 := Try.isAgg144
  z218 := Try.sizeOf144
  v218 := Try.zeroValue144
  t222 := Try.underlying148
  a222 := Try.isAgg148
  z222 := Try.sizeOf148
  v222 := Try.zeroValue148
  t228 := Try.underlying152
  a228 := Try.isAgg152
  z228 := Try.sizeOf152
  v228 := Try.zeroValue152
  t229 := Try.underlying153
  a229 := Try.isAgg153
  z229 := Try.sizeOf153
  v229 := Try.zeroValue153 }
open Go.Sort Go.RowKit in
theorem Try.slices_Sort_string (blk off cap : Nat) (ss : List (List UInt8)) (w : World) (hH : Holds encStr w blk off ss.toArray) (hblk : blk < w.heap.size) (hsz : ss.length < 4611686018427387904) :
    Calls Try.prog 38 #[.slice (some ⟨blk, off, none⟩) ss.length cap] w fun e w' =>
      e = .returned (.tuple #[]) ∧ ∃ n os, w' = grow (putRow encStr (Sort.ahead w n) blk off (ss.mergeSort fun x y => decide (x ≤ y)).toArray) os := Any.slices_Sort_string Try.lays190 blk off cap ss w hH hblk hsz
def Try.lays106_ren : Go.Shelf.Ren := ⟨fun | 106 => 43 | 213 => 63 | 265 => 97 | n => n, fun | 9 => 9 | 3 => 3 | n => n, fun | n => n⟩
theorem Try.lays106 : Go.Proofs.Lays.n106 Try.prog Try.lays106_ren := {
  mixed := by kernel_rfl
  f106 := Try.func43.trans (congrArg some (by kernel_rfl))
  f213 := Try.func63.trans (congrArg some (by kernel_rfl))
  f265 := Try.func97.trans (congrArg some (by kernel_rfl))
  t3 := Try.underlying3
  a3 := Try.isAgg3
  z3 := Try.sizeOf3
  v3 := Try.zeroValue3
  t9 := Try.underlying9
  a9 := Try.isAgg9
  z9 := Try.sizeOf9
  v9 := Try.zeroValue9 }
open Go.RowKit in
/-- strings.Compare: "Compare returns an integer comparing two strings lexicographically. The result will be 0 if a == b, -1 if a < b, and +1 if a > b.": IT RETURNS 'Lib.compareBytes a b'; the world is as it was. (LAID: no walk: one application.) -/
theorem Try.strings_Compare (a b : ByteArray) (w : World) :
    Calls Try.prog 43 #[.string a, .string b] w fun e w' => e = .returned (.int .i64 (Lib.compareBytes a.data.toList b.data.toList)) ∧ w' = w := Any.strings_Compare Try.lays106 a b w
def Try.lays99_ren : Go.Shelf.Ren := ⟨fun | 99 => 44 | 206 => 64 | n => n, fun | 9 => 9 | 4 => 4 | 3 => 3 | n => n, fun | n => n⟩
theorem Try.lays99 : Go.Proofs.Lays.n99 Try.prog Try.lays99_ren := {
  mixed := by kernel_rfl
  f99 := Try.func44.trans (congrArg some (by kernel_rfl))
  f206 := Try.func64.trans (congrArg some (by kernel_rfl))
  t3 := Try.underlying3
  a3 := Try.isAgg3
  z3 := Try.sizeOf3
  v3 := Try.zeroValue3
  t4 := Try.underlying4
  a4 := Try.isAgg4
  z4 := Try.sizeOf4
  v4 := Try.zeroValue4
  t9 := Try.underlying9
  a9 := Try.isAgg9
  z9 := Try.sizeOf9
  v9 := Try.zeroValue9 }
open Go.RowKit Go.Lib in
/-- strings.HasPrefix: "HasPrefix reports whether the string s begins with prefix.": IT RETURNS 'Lib.hasPrefix s prefix'; the world is as it was. (LAID: no walk: one application.) -/
theorem Try.strings_HasPrefix (s p : ByteArray) (w : World) :
    Calls Try.prog 44 #[.string s, .string p] w fun e w' => e = .returned (.bool (Lib.hasPrefix s.data.toList p.data.toList)) ∧ w' = w := Any.strings_HasPrefix Try.lays99 s p w
def Try.lays193_ren : Go.Shelf.Ren := ⟨fun | 193 => 21 | n => n, fun | 31 => 45 | 9 => 9 | 4 => 4 | 3 => 3 | 0 => 0 | n => n, fun | n => n⟩
theorem Try.lays193 : Go.Proofs.Lays.n193 Try.prog Try.lays193_ren := {
  mixed := by kernel_rfl
  f193 := Try.func21.trans (congrArg some (by kernel_rfl))
  t0 := Try.underlying0
  a0 := Try.isAgg0
  z0 := Try.sizeOf0
  v0 := Try.zeroValue0
  t3 := Try.underlying3
  a3 := Try.isAgg3
  z3 := Try.sizeOf3
  v3 := Try.zeroValue3
  t4 := Try.underlying4
  a4 := Try.isAgg4
  z4 := Try.sizeOf4
  v4 := Try.zeroValue4
  t9 := Try.underlying9
  a9 := Try.isAgg9
  z9 := Try.sizeOf9
  v9 := Try.zeroValue9
  t31 := Try.underlying45
  a31 := Try.isAgg45
  z31 := Try.sizeOf45
  v31 := Try.zeroValue45 }
open Go.RowKit Go.Lib in
/-- slices.Equal at []string: "Equal reports whether two slices are equal: the same length and all elements equal. If the lengths are different, Equal returns false. Otherwise, the elements are compared in increasing index order, and the comparison stops at the first unequal pair. Empty and nil slices are considered equal.": IT RETURNS WHETHER THE TWO LISTS OF ELEMENTS ARE ONE; the world is as it was but for the count of draws (the test 's1[i] != s2[i]' has two reads, whose order the model draws, once a round). 'xs', 'ys': what the cells behind the two addresses hold (the spare capacity too, if you have it); 'xs.take n', 'ys.take m': the elements. THE TWO SLICES MAY OVERLAP. (LAID: no walk: one application.) -/
theorem Try.slices_Equal_string (b1 o1 n c b2 o2 m d : Nat) (xs ys : List ByteArray) (w : World) (hx : n ≤ xs.length) (hy : m ≤ ys.length) (hbig : n ≤ 9223372036854775807) (hbig2 : m ≤ 9223372036854775807) (hc1 : ∀ j, j < xs.length → w.cell? ⟨b1, o1 + j, none⟩ = some (.string (xs.getD j ByteArray.empty))) (hc2 : ∀ j, j < ys.length → w.cell? ⟨b2, o2 + j, none⟩ = some (.string (ys.getD j ByteArray.empty))) :
    Calls Try.prog 21 #[.slice (some ⟨b1, o1, none⟩) n c, .slice (some ⟨b2, o2, none⟩) m d] w fun e w' => e = .returned (.bool (decide (xs.take n = ys.take m))) ∧ ∃ q, w' = w.drewN q := Any.slices_Equal_string Try.lays193 b1 o1 n c b2 o2 m d xs ys w hx hy hbig hbig2 hc1 hc2
open Go.RowKit Go.Lib in
/-- The same where the first is of length 0 (a nil one too): no cell is asked for. (LAID: no walk: one application.) -/
theorem Try.slices_Equal_string_empty (a1 a2 : Option Addr) (c m d : Nat) (w : World) (hbig2 : m ≤ 9223372036854775807) :
    Calls Try.prog 21 #[.slice a1 0 c, .slice a2 m d] w fun e w' => e = .returned (.bool (decide (m = 0))) ∧ w' = w := Any.slices_Equal_string_empty Try.lays193 a1 a2 c m d w hbig2
open Go.RowKit Go.Sort in
/-- .. and plain. (LAID: no walk: one application.) -/
theorem Try.slices_Sort_string_none (p : Option Addr) (cap : Nat) (w : World) :
    Calls Try.prog 38 #[.slice p 0 cap] w fun e w' => e = .returned (.tuple #[]) ∧ w' = w := Any.slices_Sort_string_none Try.lays190 p cap w
def Try.bsS_ren : Go.Shelf.Ren := ⟨fun | 26 => 45 | 33 => 65 | 34 => 66 | 38 => 98 | n => n, fun | 24 => 45 | 9 => 9 | 3 => 3 | 4 => 4 | 40 => 112 | 0 => 0 | n => n, fun | n => n⟩
theorem Try.bsS : Go.Proofs.Lays2.n26 Try.prog Try.bsS_ren := {
  mixed := by kernel_rfl
  f26 := Try.func45.trans (congrArg some (by kernel_rfl))
  f33 := Try.func65.trans (congrArg some (by kernel_rfl))
  f34 := Try.func66.trans (congrArg some (by kernel_rfl))
  f38 := Try.func98.trans (congrArg some (by kernel_rfl))
  t0 := Try.underlying0
  a0 := Try.isAgg0
  z0 := Try.sizeOf0
  v0 := Try.zeroValue0
  t3 := Try.underlying3
  a3 := Try.isAgg3
  z3 := Try.sizeOf3
  v3 := Try.zeroValue3
  t4 := Try.underlying4
  a4 := Try.isAgg4
  z4 := Try.sizeOf4
  v4 := Try.zeroValue4
  t9 := Try.underlying9
  a9 := Try.isAgg9
  z9 := Try.sizeOf9
  v9 := Try.zeroValue9
  t24 := Try.underlying45
  a24 := Try.isAgg45
  z24 := Try.sizeOf45
  v24 := Try.zeroValue45
  t40 := Try.underlying112
  a40 := Try.isAgg112
  z40 := Try.sizeOf112
  v40 := Try.zeroValue112 }
def Try.sortW_ren : Go.Shelf.Ren := ⟨fun | 6 => 41 | 15 => 60 | 14 => 62 | 28 => 87 | 29 => 88 | 20 => 89 | 21 => 90 | 22 => 91 | 23 => 92 | 24 => 93 | 25 => 94 | 26 => 95 | 27 => 96 | 46 => 110 | 47 => 106 | 48 => 107 | 49 => 111 | 50 => 112 | 57 => 115 | n => n, fun | 22 => 38 | 24 => 79 | 25 => 85 | 3 => 3 | 39 => 112 | 0 => 0 | 53 => 132 | 55 => 134 | 4 => 4 | 46 => 126 | 45 => 125 | 50 => 89 | 5 => 5 | 9 => 9 | 66 => 144 | 70 => 148 | 76 => 152 | 77 => 153 | n => n, fun | n => n⟩
theorem Try.sortW : Go.Proofs.SlLaysF0.n6 Try.prog Try.sortW_ren := {
  mixed := by kernel_rfl
  f6 := ⟨Try.f41.name, by decide, Try.func41.trans (congrArg some (by kernel_rfl))⟩
  f14 := ⟨Try.f62.name, by decide, Try.func62.trans (congrArg some (by kernel_rfl))⟩
  f15 := Try.func60.trans (congrArg some (by kernel_rfl))
  f20 := ⟨Try.f89.name, by decide, Try.func89.trans (congrArg some (by kernel_rfl))⟩
  f21 := ⟨Try.f90.name, by decide, Try.func90.trans (congrArg some (by kernel_rfl))⟩
  f22 := ⟨Try.f91.name, by decide, Try.func91.trans (congrArg some (by kernel_rfl))⟩
  f23 := ⟨Try.f92.name, by decide, Try.func92.trans (congrArg some (by kernel_rfl))⟩
  f24 := ⟨Try.f93.name, by decide, Try.func93.trans (congrArg some (by kernel_rfl))⟩
  f25 := ⟨Try.f94.name, by decide, Try.func94.trans (congrArg some (by kernel_rfl))⟩
  f26 := ⟨Try.f95.name, by decide, Try.func95.trans (congrArg some (by kernel_rfl))⟩
  f27 := ⟨Try.f96.name, by decide, Try.func96.trans (congrArg some (by kernel_rfl))⟩
  f28 := Try.func87.trans (congrArg some (by kernel_rfl))
  f29 := Try.func88.trans (congrArg some (by kernel_rfl))
  f46 := ⟨Try.f110.name, by decide, Try.func110.trans (congrArg some (by kernel_rfl))⟩
  f47 := Try.func106.trans (congrArg some (by kernel_rfl))
  f48 := Try.func107.trans (congrArg some (by kernel_rfl))
  f49 := ⟨Try.f111.name, by decide, Try.func111.trans (congrArg some (by kernel_rfl))⟩
  f50 := ⟨Try.f112.name, by decide, Try.func112.trans (congrArg some (by kernel_rfl))⟩
  f57 := ⟨Try.f115.name, by decide, Try.func115.trans (congrArg some (by kernel_rfl))⟩
  t0 := Try.underlying0
  a0 := Try.isAgg0
  z0 := Try.sizeOf0
  v0 := Try.zeroValue0
  t3 := Try.underlying3
  a3 := Try.isAgg3
  z3 := Try.sizeOf3
  v3 := Try.zeroValue3
  t4 := Try.underlying4
  a4 := Try.isAgg4
  z4 := Try.sizeOf4
  v4 := Try.zeroValue4
  t5 := Try.underlying5
  a5 := Try.isAgg5
  z5 := Try.sizeOf5
  v5 := Try.zeroValue5
  t9 := Try.underlying9
  a9 := Try.isAgg9
  z9 := Try.sizeOf9
  v9 := Try.zeroValue9
  t22 := Try.underlying38
  a22 := Try.isAgg38
  z22 := Try.sizeOf38
  v22 := Try.zeroValue38
  t25 := Try.underlying85
  a25 := Try.isAgg85
  z25 := Try.sizeOf85
  v25 := Try.zeroValue85
  t39 := Try.underlying112
  a39 := Try.isAgg112
  z39 := Try.sizeOf112
  v39 := Try.zeroValue112
  t45 := Try.underlying125
  a45 := Try.isAgg125
  z45 := Try.sizeOf125
  v45 := Try.zeroValue125
  t46 := Try.underlying126
  a46 := Try.isAgg126
  z46 := Try.sizeOf126
  v46 := Try.zeroValue126
  t50 := Try.underlying89
  a50 := Try.isAgg89
  z50 := Try.sizeOf89
  v50 := Try.zeroValue89
  t53 := Try.underlying132
  a53 := Try.isAgg132
  z53 := Try.sizeOf132
  v53 := Try.zeroValue132
  t55 := Try.underlying134
  a55 := Try.isAgg134
  z55 := Try.sizeOf134
  v55 := Try.zeroValue134
  t66 := Try.underlying144
  a66 := Try.isAgg144
  z66 := Try.sizeOf144
  v66 := Try.zeroValue144
  t70 := Try.underlying148
  a70 := Try.isAgg148
  z70 := Try.sizeOf148
  v70 := Try.zeroValue148
  t76 := Try.underlying152
  a76 := Try.isAgg152
  z76 := Try.sizeOf152
  v76 := Try.zeroValue152
  t77 := Try.underlying153
  a77 := Try.isAgg153
  z77 := Try.sizeOf153
  v77 := Try.zeroValue153 }
end Go.Proofs
namespace Go.Proofs.Ytmoplmjfnjgcaaa
open Go.RowKit
set_option linter.unusedSimpArgs false
set_option linter.unusedVariables false

theorem isWord_no (t : ByteArray) (w : World) (h : ¬ (1 ≤ t.size ∧ t.size ≤ 40)) (hs : t.size ≤ 9223372036854775807) : Calls Try.prog 37 #[.string t] w fun r w' => r = .returned (.bool false) ∧ w = w' := by
  have H := Lib.hid (show ¬ ((1 : Int) ≤ (t.size : Int) ∧ (t.size : Int) ≤ 40) by omega)
  clear h
  go_enter Try.func37, Try.ntmps37
  go_wp2_with (first | (go_at_call 29; (with_reducible refine (outside_yes (t.size : Int) 1 40 _ H.out).mono ?_); rintro e w' ⟨rfl, rfl⟩))
  go_ret
  exact ⟨rfl, rfl⟩

end Go.Proofs.Ytmoplmjfnjgcaaa
namespace Go.Proofs.Ytmoplmjfnjgcaaa
open Go.RowKit
set_option linter.unusedSimpArgs false
set_option linter.unusedVariables false

/-- A word: one to 40 bytes that may stand in it, letters at its ends. -/
def isWd (t : ByteArray) : Bool := (decide (1 ≤ t.size ∧ t.size ≤ 40) && letB (byteAt t 0)) && (letB (byteAt t (t.size - 1)) && decide (endOf t 0 = t.size))

set_option maxHeartbeats 800000 in
theorem isWordP_any (t : ByteArray) (w : World) (hs : t.size ≤ 9223372036854775807) : Calls Try.prog 37 #[.string t] w fun r w' => r = .returned (.bool (isWd t)) ∧ w = w' := by
  by_cases h : 1 ≤ t.size ∧ t.size ≤ 40
  · have H := Lib.hid (show (1 : Int) ≤ (t.size : Int) ∧ (t.size : Int) ≤ 40 by omega)
    have p0 : 0 < t.size := by omega
    have p1 : t.size - 1 < t.size := by omega
    have HE := Lib.hid (fun w => runEnd_any t 0 w (by omega) (by omega))
    have hw : IntKind.i64.wrap ((t.size : Int) - 1) = ((t.size - 1 : Nat) : Int) := by rw [show (t.size : Int) - 1 = ((t.size - 1 : Nat) : Int) by omega]; exact IntWalk.i64_in _ (by omega)
    have hw2 : (t.size : Int) - 1 = ((t.size - 1 : Nat) : Int) := by omega
    have hv : isWd t = (letB (byteAt t 0) && (letB (byteAt t (t.size - 1)) && decide (endOf t 0 = t.size))) := by unfold isWd; rw [decide_eq_true h]; rfl
    rw [← byteAt_get t 0 p0, ← byteAt_get t _ p1] at hv
    have HV := Lib.hid hv
    obtain ⟨h2, h3⟩ := h
    clear hv
    cases l0 : letB (t[0].toNat : Int)
    · go_enter Try.func37, Try.ntmps37
      go_wp2_with (first | (go_at_call 29; (with_reducible refine (outside_no (t.size : Int) 1 40 _ H.out).mono ?_); rintro e w' ⟨rfl, rfl⟩) | (go_at_call 57; refine (isLetter_any _ _).mono ?_; rintro e w' ⟨rfl, rfl⟩))
      go_ret
      exact ⟨ret_bool (by rw [HV.out, l0]; rfl), rfl⟩
    · cases l1 : letB (t[t.size - 1].toNat : Int)
      · go_enter Try.func37, Try.ntmps37
        go_wp2_with (first | (go_at_call 29; (with_reducible refine (outside_no (t.size : Int) 1 40 _ H.out).mono ?_); rintro e w' ⟨rfl, rfl⟩) | (go_at_call 57; refine (isLetter_any _ _).mono ?_; rintro e w' ⟨rfl, rfl⟩))
        go_ret
        exact ⟨ret_bool (by rw [HV.out, l0, l1]; rfl), rfl⟩
      · have HQ := Lib.hid (show (decide (endOf t 0 = t.size)) = decide (((endOf t 0 : Nat) : Int) = (t.size : Int)) by
          by_cases e : endOf t 0 = t.size
          · rw [decide_eq_true e, decide_eq_true (by omega)]
          · rw [decide_eq_false e, decide_eq_false (by omega)])
        go_enter Try.func37, Try.ntmps37
        go_wp2_with (first | (go_at_call 29; (with_reducible refine (outside_no (t.size : Int) 1 40 _ H.out).mono ?_); rintro e w' ⟨rfl, rfl⟩) | (go_at_call 57; refine (isLetter_any _ _).mono ?_; rintro e w' ⟨rfl, rfl⟩) | (go_at_call 58; refine (HE.out _).mono ?_; rintro e w' ⟨rfl, rfl⟩))
        go_ret
        exact ⟨ret_bool (by rw [HV.out, l0, l1, HQ.out]; rfl), rfl⟩
  · have hv : isWd t = false := by unfold isWd; rw [decide_eq_false h]; rfl
    rw [hv]
    exact isWord_no t w h hs

end Go.Proofs.Ytmoplmjfnjgcaaa
namespace Go.Proofs.Ytmoplmjfnjgcaaa
open Go.ChangeShapes Go.WideShapes Go.ChangeAt Go.RowKit Go.Joins
open Go.ChangeMaps (open_string shut_string)
set_option linter.unusedVariables false

theorem own : ownKnob Try.prog.godebug = none := by kernel_rfl
theorem laidOut : laidOutB Try.prog = true := by kernel_rfl
end Go.Proofs.Ytmoplmjfnjgcaaa
namespace Go.Proofs.Ytmoplmjfnjgcaaa
open Go.RowKit Go.Maps
set_option linter.unusedSimpArgs false
set_option linter.unusedVariables false

theorem str_keyed : Keyed Try.prog 9 := string_keyed Try.underlying9
theorem str_key {s : ByteArray} (hs : s.size ≤ maxLen) : keyOf Try.prog 9 (.string s) = some (.string s.data.toList) := WideMaps.keyOf_string_mk Try.underlying9 hs
theorem str_inj {s t : ByteArray} (h : Lit.string s.data.toList = Lit.string t.data.toList) : s = t := by
  injection h with h
  apply ByteArray.ext
  rw [← Array.toList_inj]
  exact h
theorem zero_intS (w : World) : (zeroValue 3).run Try.prog w = .ok (.int .i64 0) w := by kernel_rfl
theorem zero_boolS (w : World) : (zeroValue 4).run Try.prog w = .ok (.bool false) w := by kernel_rfl

theorem plainElem_bool_inv {H : Type} {P : Program} {e : TypeId} (he : P.underlying e = some .bool) {v : Value} {z : DataW H × List MemPlace} (h : plainElem P e v = some z) : ∃ x, v = .bool x ∧ z = (.lit (.bool x), []) := by
  unfold plainElem at h
  rw [he] at h
  cases v <;> simp at h
  rename_i x
  exact ⟨x, rfl, by simpa using h.symm⟩

/-- A map in memory that tells of each text a number. -/
def StrMap (f : ByteArray → Int) (b n : Nat) (wr : World) : Prop :=
  ∃ D : DataW Unit, wr.ownsMap Try.prog 9 (plainElem Try.prog 3) b n D ∧ IsMap D ∧ ∀ s : ByteArray, s.size ≤ maxLen → D.atKey (.string s.data.toList) (.lit (.int .i64 0)) = .lit (.int .i64 (f s))
theorem strMap_kept {f : ByteArray → Int} {b n : Nat} {w w' : World} {row : Option Nat} (h : StrMap f b n w) (hg : w.grownBy w' row) (hne : some b ≠ row) : StrMap f b n w' := by
  obtain ⟨D, h1, h2, h3⟩ := h
  exact ⟨D, h1.kept hg hne, h2, h3⟩
theorem strMap_look {f : ByteArray → Int} {b n : Nat} {s : ByteArray} {w : World} (h : StrMap f b n w) (hs : s.size ≤ maxLen) :
    (Instr.lookup 75 (.map (some b)) (.string s) false).run Try.prog w = .ok (.int .i64 (f s)) w := by
  obtain ⟨D, h1, h2, h3⟩ := h
  obtain ⟨c, hrun, hat, _⟩ := h1.lookup_int str_keyed Try.underlying75 Try.underlying3 (zero_intS w) (str_key hs)
  rw [h3 s hs] at hat
  simp at hat
  rw [hat]
  exact hrun
theorem strMap_store {f f' : ByteArray → Int} {b n : Nat} {s : ByteArray} {x : Int} {w : World} (h : StrMap f b n w) (hn : n < maxLen) (hs : s.size ≤ maxLen) (hx : (Lit.int .i64 x).wf = true) (e1 : f' s = x) (e2 : ∀ t, t ≠ s → f' t = f t) :
    ∃ w', (Instr.mapUpdate 75 (.map (some b)) (.string s) (.int .i64 x)).run Try.prog w = .ok () w' ∧ StrMap f' b (n + 1) w' ∧ w.grownBy w' (some b) := by
  obtain ⟨D, h1, h2, h3⟩ := h
  obtain ⟨w', hrun, ho, hg⟩ := h1.update str_keyed Try.underlying75 hn (str_key hs) (plainElem_int Try.underlying3 (a := x) hx)
  refine ⟨w', hrun, ⟨_, ho, h2.put _ _, fun t ht => ?_⟩, hg⟩
  by_cases e : t = s
  · subst e
    rw [atKey_put_same h2 (str_keyed.key (str_key ht)), e1]
  · rw [atKey_put_other (fun k => e (str_inj k)), h3 t ht, e2 t e]
theorem strMap_new (w : World) : StrMap (fun _ => 0) w.heap.size 0 (w.alloc (.map #[] 0)) :=
  ⟨.map [], World.ownsMap_made w Try.prog 9 _, isMap_empty, fun _ _ => rfl⟩

/-- A map in memory that tells of each text whether it is in. -/
def StrSet (f : ByteArray → Bool) (b n : Nat) (wr : World) : Prop :=
  ∃ D : DataW Unit, wr.ownsMap Try.prog 9 (plainElem Try.prog 4) b n D ∧ IsMap D ∧ ∀ s : ByteArray, s.size ≤ maxLen → D.atKey (.string s.data.toList) (.lit (.bool false)) = .lit (.bool (f s))
theorem strSet_kept {f : ByteArray → Bool} {b n : Nat} {w w' : World} {row : Option Nat} (h : StrSet f b n w) (hg : w.grownBy w' row) (hne : some b ≠ row) : StrSet f b n w' := by
  obtain ⟨D, h1, h2, h3⟩ := h
  exact ⟨D, h1.kept hg hne, h2, h3⟩
theorem strSet_look {f : ByteArray → Bool} {b n : Nat} {s : ByteArray} {w : World} (h : StrSet f b n w) (hs : s.size ≤ maxLen) :
    (Instr.lookup 81 (.map (some b)) (.string s) false).run Try.prog w = .ok (.bool (f s)) w := by
  obtain ⟨D, h1, h2, h3⟩ := h
  obtain ⟨v, ps, hrun, hv⟩ := h1.lookup str_keyed Try.underlying81 (zero_boolS w) (plainElem_bool Try.underlying4 false) (str_key hs)
  obtain ⟨c, rfl, hc⟩ := plainElem_bool_inv Try.underlying4 hv
  simp only [Prod.mk.injEq] at hc
  have hat := hc.1
  rw [h3 s hs] at hat
  simp at hat
  rw [hat]
  exact hrun
theorem strSet_store {f f' : ByteArray → Bool} {b n : Nat} {s : ByteArray} {x : Bool} {w : World} (h : StrSet f b n w) (hn : n < maxLen) (hs : s.size ≤ maxLen) (e1 : f' s = x) (e2 : ∀ t, t ≠ s → f' t = f t) :
    ∃ w', (Instr.mapUpdate 81 (.map (some b)) (.string s) (.bool x)).run Try.prog w = .ok () w' ∧ StrSet f' b (n + 1) w' ∧ w.grownBy w' (some b) := by
  obtain ⟨D, h1, h2, h3⟩ := h
  obtain ⟨w', hrun, ho, hg⟩ := h1.update str_keyed Try.underlying81 hn (str_key hs) (plainElem_bool Try.underlying4 x)
  refine ⟨w', hrun, ⟨_, ho, h2.put _ _, fun t ht => ?_⟩, hg⟩
  by_cases e : t = s
  · subst e
    rw [atKey_put_same h2 (str_keyed.key (str_key ht)), e1]
  · rw [atKey_put_other (fun k => e (str_inj k)), h3 t ht, e2 t e]
theorem strSet_new (w : World) : StrSet (fun _ => false) w.heap.size 0 (w.alloc (.map #[] 0)) :=
  ⟨.map [], World.ownsMap_made w Try.prog 9 _, isMap_empty, fun _ _ => rfl⟩

end Go.Proofs.Ytmoplmjfnjgcaaa
namespace Go.Proofs.Ytmoplmjfnjgcaaa
open Go.RowKit Go.Maps
set_option linter.unusedSimpArgs false
set_option linter.unusedVariables false

theorem inw_of (c : Int) : inwB c = (letB c || decide (c = 39)) := rfl

theorem isWd_big (t : ByteArray) (h : ¬ (1 ≤ t.size ∧ t.size ≤ 40)) : isWd t = false := by unfold isWd; rw [decide_eq_false h]; rfl
theorem isWd_first (t : ByteArray) (h : letB (byteAt t 0) = false) : isWd t = false := by unfold isWd; rw [h]; simp
theorem isWd_last (t : ByteArray) (h : letB (byteAt t (t.size - 1)) = false) : isWd t = false := by unfold isWd; rw [h]; simp
theorem isWd_in (t : ByteArray) (k : Nat) (hk : k < t.size) (h : inwB (byteAt t k) = false) : isWd t = false := by
  unfold isWd
  have : ¬ endOf t 0 = t.size := fun e => by
    obtain ⟨_, _, h3, _⟩ := endOf_spec t 0 (Nat.zero_le _)
    rw [h3 k (Nat.zero_le _) (by omega)] at h
    cases h
  rw [decide_eq_false this]; simp
theorem isWd_all (t : ByteArray) (h1 : 1 ≤ t.size ∧ t.size ≤ 40) (h2 : letB (byteAt t 0) = true) (h3 : letB (byteAt t (t.size - 1)) = true) (h4 : ∀ j, 0 ≤ j → j < t.size → inwB (byteAt t j) = true) : isWd t = true := by
  unfold isWd
  rw [decide_eq_true h1, h2, h3, endOf_eq t 0 t.size (Nat.zero_le _) (Nat.le_refl _) h4 (inw_end t)]
  simp

set_option maxHeartbeats 800000 in
theorem isWordR_any (t : ByteArray) (w : World) (hs : t.size ≤ 9223372036854775807) : Calls Try.prog 39 #[.string t] w fun r w' => r = .returned (.bool (isWd t)) ∧ w = w' := by
  by_cases h0 : t.size = 0
  · have HV := Lib.hid (isWd_big t (by omega))
    have hem : t.toList.isEmpty = true := by
      rw [Lib.toList_data]
      cases hl : t.data.toList with
      | nil => rfl
      | cons x l =>
        have h1 : t.data.toList.length = t.size := by rw [Array.length_toList]; rfl
        rw [hl, h0] at h1
        simp at h1
    clear h0
    go_enter Try.func39, Try.ntmps39
    go_wp2_with fail
    go_ret
    exact ⟨ret_bool HV.out.symm, rfl⟩
  · have hem : t.toList.isEmpty = false := by
      rw [Lib.toList_data]
      cases hl : t.data.toList with
      | nil =>
        have h1 : t.data.toList.length = t.size := by rw [Array.length_toList]; rfl
        rw [hl, List.length_nil] at h1
        omega
      | cons x l => rfl
    by_cases h4 : 40 < t.size
    · have HV := Lib.hid (isWd_big t (by omega))
      have i1 : (40 : Int) < (t.size : Int) := by omega
      go_enter Try.func39, Try.ntmps39
      go_wp2_with fail
      go_ret
      exact ⟨ret_bool HV.out.symm, rfl⟩
    · have i1 : ¬ (40 : Int) < (t.size : Int) := by omega
      have p0 : 0 < t.size := by omega
      have p1 : t.size - 1 < t.size := by omega
      have hw : IntKind.i64.wrap ((t.size : Int) - 1) = ((t.size - 1 : Nat) : Int) := by rw [show (t.size : Int) - 1 = ((t.size - 1 : Nat) : Int) by omega]; exact IntWalk.i64_in _ (by omega)
      have hw2 : (t.size : Int) - 1 = ((t.size - 1 : Nat) : Int) := by omega
      have B0 := Lib.hid (byteAt_get t 0 p0)
      have B1 := Lib.hid (byteAt_get t _ p1)
      cases l0 : letB (t[0].toNat : Int)
      · have HV := Lib.hid (isWd_first t (by rw [← B0.out]; exact l0))
        go_enter Try.func39, Try.ntmps39
        go_wp2_with (first | (go_at_call 61; refine (isLetterR_any _ _).mono ?_; rintro e w' ⟨rfl, rfl⟩))
        go_ret
        exact ⟨ret_bool HV.out.symm, rfl⟩
      · cases l1 : letB (t[t.size - 1].toNat : Int)
        · have HV := Lib.hid (isWd_last t (by rw [← B1.out]; exact l1))
          go_enter Try.func39, Try.ntmps39
          go_wp2_with (first | (go_at_call 61; refine (isLetterR_any _ _).mono ?_; rintro e w' ⟨rfl, rfl⟩))
          go_ret
          exact ⟨ret_bool HV.out.symm, rfl⟩
        · have L0 := Lib.hid (show letB (byteAt t 0) = true by rw [← B0.out]; exact l0)
          have L1 := Lib.hid (show letB (byteAt t (t.size - 1)) = true by rw [← B1.out]; exact l1)
          have h40 : t.size ≤ 40 := by omega
          go_enter Try.func39, Try.ntmps39
          go_wp2_with (first | (go_at_call 61; refine (isLetterR_any _ _).mono ?_; rintro e w' ⟨rfl, rfl⟩))
          go_loop [28] (fun i => ∃ k : Nat, k ≤ t.size ∧ i = .int .i64 k ∧ Hid (∀ j, 0 ≤ j → j < k → inwB (byteAt t j) = true)) (fun i => t.size - (intOf i).toNat)
          case atStart => exact ⟨0, Nat.zero_le _, rfl, Lib.hid (fun j h1 h2 => by omega)⟩
          case round =>
            obtain ⟨k, hk, rfl, HK⟩ := hrel
            by_cases hlt : k < t.size
            · have i2 : (k : Int) < (t.size : Int) := by omega
              have BK := Lib.hid (byteAt_get t k hlt)
              cases lk : letB (t[k].toNat : Int)
              · by_cases h39 : (t[k].toNat : Int) = 39
                · have h39' : ((t[k].toNat : Int) != 39) = false := by simp [h39]
                  have HIN := Lib.hid (show inwB (byteAt t k) = true by rw [← BK.out, inw_of, lk]; simp [h39])
                  clear h39
                  go_wp2_with (first | (go_at_call 61; refine (isLetterR_any _ _).mono ?_; rintro e w' ⟨rfl, rfl⟩))
                  go_round
                  case rel => exact ⟨k + 1, by omega, by go_num, Lib.hid (fun j h1 h2 => by
                    by_cases e : j = k
                    · rw [e]; exact HIN.out
                    · exact HK.out j h1 (by omega))⟩
                  case measure => simp [intOf]; omega
                · have h39' : ((t[k].toNat : Int) != 39) = true := by simp [h39]
                  have HV := Lib.hid (isWd_in t k hlt (by rw [← BK.out, inw_of, lk]; simp [h39]))
                  clear h39
                  go_wp2_with (first | (go_at_call 61; refine (isLetterR_any _ _).mono ?_; rintro e w' ⟨rfl, rfl⟩))
                  go_ret
                  exact ⟨ret_bool HV.out.symm, rfl⟩
              · have HIN := Lib.hid (show inwB (byteAt t k) = true by rw [← BK.out, inw_of, lk]; rfl)
                go_wp2_with (first | (go_at_call 61; refine (isLetterR_any _ _).mono ?_; rintro e w' ⟨rfl, rfl⟩))
                go_round
                case rel => exact ⟨k + 1, by omega, by go_num, Lib.hid (fun j h1 h2 => by
                  by_cases e : j = k
                  · rw [e]; exact HIN.out
                  · exact HK.out j h1 (by omega))⟩
                case measure => simp [intOf]; omega
            · obtain rfl : k = t.size := by omega
              have HV := Lib.hid (isWd_all t (by omega) L0.out L1.out HK.out)
              go_wp2_with fail
              go_ret
              exact ⟨ret_bool HV.out.symm, rfl⟩

/-- A text with a count. -/
structure Wd where
  t : ByteArray
  c : Int
instance : Inhabited Wd := ⟨⟨⟨#[]⟩, 0⟩⟩
def WordsAt (w : World) (g o n : Nat) (B : Nat → Wd) : Prop := ∀ i, i < n → w.cell? ⟨g, o + i * 2, none⟩ = some (.string (B i).t) ∧ w.cell? ⟨g, o + i * 2 + 1, none⟩ = some (.int .i64 (B i).c)
theorem WordsAt.later {w w' : World} {g o n : Nat} {B : Nat → Wd} (h : WordsAt w g o n B) (hb : Below w.heap.size w w') : WordsAt w' g o n B := fun i hi => ⟨cell_later hb (h i hi).1, cell_later hb (h i hi).2⟩

/-- Whether one of the first k words is this one; the count of the last such. -/
def seenT (B : Nat → Wd) : Nat → ByteArray → Bool
  | 0, _ => false
  | k + 1, s => seenT B k s || decide ((B k).t = s)
def cntT (B : Nat → Wd) : Nat → ByteArray → Int
  | 0, _ => 0
  | k + 1, s => if (B k).t = s then (B k).c else cntT B k s
def wdErr (B : Nat → Wd) (i : Nat) : Int := if isWd (B i).t = false then 2 else if 1 ≤ (B i).c ∧ (B i).c ≤ 1000000000 then (if seenT B i (B i).t = true then 6 else 0) else 3
def dcFirst (B : Nat → Wd) : Nat → Int
  | 0 => 0
  | n + 1 => if dcFirst B n = 0 then wdErr B n else dcFirst B n
def dcErr (B : Nat → Wd) (n : Nat) : Int := if 5000 < n then 4 else dcFirst B n
theorem dcFirst_later {B : Nat → Wd} {n m : Nat} (h : dcFirst B n ≠ 0) (hm : n ≤ m) : dcFirst B m = dcFirst B n := by
  induction m with
  | zero => rw [show n = 0 by omega]
  | succ m ih =>
    rcases Nat.lt_or_eq_of_le hm with h1 | h1
    · rw [dcFirst, ih (by omega), if_neg h]
    · rw [h1]

set_option maxHeartbeats 1000000 in
set_option maxRecDepth 100000 in
theorem dictError_any (n g o c : Nat) (B : Nat → Wd) (w : World) (hn : n ≤ 9223372036854775807) (hB : WordsAt w g o n B) (hZ : ∀ i, i < n → (B i).t.size ≤ 9223372036854775807) :
    Calls Try.prog 15 #[.slice (some ⟨g, o, none⟩) n c] w fun e w' => e = .returned (.int .i64 (dcErr B n)) ∧ Below w.heap.size w w' := by
  have hmm := @run_makeMap Try.prog
  by_cases h5 : 5000 < n
  · have HE := Lib.hid (show dcErr B n = 4 by unfold dcErr; rw [if_pos h5])
    have i1 : (5000 : Int) < (n : Int) := by omega
    clear hmm
    go_enter Try.func15, Try.ntmps15
    go_wp2_with fail
    go_ret
    exact ⟨ret_int HE.out.symm, Below.refl _ _⟩
  · have HE := Lib.hid (show dcErr B n = dcFirst B n by unfold dcErr; rw [if_neg h5])
    have i1 : ¬ (5000 : Int) < (n : Int) := by omega
    have h5' : n ≤ 5000 := by omega
    have HB := Lib.hid (fun wx (hx : Below w.heap.size w wx) => hB.later hx)
    have HZ := Lib.hid hZ
    clear hB hZ h5
    go_enter Try.func15, Try.ntmps15
    go_upto_region 4 with (fail)
    obtain ⟨w1, hw1⟩ : ∃ w1, w1 = w.alloc (.map #[] 0) := ⟨_, rfl⟩
    have S0 := Lib.hid (show StrSet (seenT B 0) w.heap.size 0 w1 ∧ Below w.heap.size w w1 ∧ dcFirst B 0 = 0 from ⟨by rw [hw1]; exact strSet_new w, by rw [hw1]; exact new_below _ _, rfl⟩)
    obtain ⟨b, hb⟩ : ∃ b, b = w.heap.size := ⟨_, rfl⟩
    have HBB := Lib.hid hb
    rw [← hw1]
    rw [← hb] at S0 ⊢
    clear hw1 hmm hb
    go_wp2_with fail
    go_loopw [12] (fun i wr => ∃ k : Nat, k ≤ n ∧ i = .int .i64 k ∧ Hid (StrSet (seenT B k) b k wr ∧ Below w.heap.size w wr ∧ dcFirst B k = 0)) (fun i _ => n - (intOf i).toNat)
    case atStart => exact ⟨0, Nat.zero_le _, rfl, by rw [HBB.out]; rw [HBB.out] at S0; exact S0⟩
    case round =>
      obtain ⟨k, hk, rfl, HR⟩ := hrel
      clear S0
      obtain ⟨wo, rfl⟩ : ∃ wo : World, wo = wr := ⟨_, rfl⟩
      by_cases hlt : k < n
      · have j1 : (k : Int) < (n : Int) := by omega
        obtain ⟨c0, c1⟩ := HB.out wo HR.out.2.1 k hlt
        have hz := HZ.out k hlt
        have hst : dcFirst B (k + 1) = wdErr B k := by rw [dcFirst, if_pos HR.out.2.2]
        have hlast : dcFirst B (k + 1) ≠ 0 → dcFirst B n = dcFirst B (k + 1) := fun h => dcFirst_later h (by omega)
        have hwe : wdErr B k = if isWd (B k).t = false then 2 else if 1 ≤ (B k).c ∧ (B k).c ≤ 1000000000 then (if seenT B k (B k).t = true then 6 else 0) else 3 := rfl
        have hnx : ∀ s, seenT B (k + 1) s = (seenT B k s || decide ((B k).t = s)) := fun s => rfl
        have hm40 : isWd (B k).t = true → (B k).t.size ≤ maxLen := fun h => by
          by_cases h1 : 1 ≤ (B k).t.size ∧ (B k).t.size ≤ 40
          · unfold maxLen; omega
          · rw [isWd_big _ h1] at h; cases h
        generalize B k = x at *
        obtain ⟨t, q⟩ := x
        simp only at c0 c1 hz hwe hnx hm40
        have HST := Lib.hid hst
        have HLA := Lib.hid hlast
        have HWE := Lib.hid hwe
        have HNX := Lib.hid hnx
        have HM4 := Lib.hid hm40
        clear hst hlast hwe hnx hm40
        go_upto_region 7 with (fail)
        obtain ⟨w3, hw3⟩ : ∃ w3, w3 = wo.alloc (.cells #[.string t, .int .i64 q] 79) := ⟨_, rfl⟩
        have S3 := Lib.hid (show StrSet (seenT B k) b k w3 ∧ Below w.heap.size w w3 from by rw [hw3]; exact ⟨strSet_kept HR.out.1 (row := none) (World.grownBy_alloc _ _ none) (by simp), below_alloc HR.out.2.1 _⟩)
        have d0 : w3.cell? ⟨wo.heap.size, 0, none⟩ = some (.string t) := by rw [hw3]; go_simp
        have d1 : w3.cell? ⟨wo.heap.size, 1, none⟩ = some (.int .i64 q) := by rw [hw3]; go_simp
        have hlt3 : wo.heap.size < w3.heap.size := by rw [hw3]; simp
        rw [← hw3]
        clear hw3 c0 c1
        cases hwd : isWd t
        · have HV := Lib.hid (show dcFirst B n = 2 by rw [HLA.out (by rw [HST.out, HWE.out, hwd, if_pos rfl]; decide), HST.out, HWE.out, hwd, if_pos rfl])
          go_wp2_with (first | (go_at_call 39; refine (isWordR_any t _ hz).mono ?_; rintro e w' ⟨rfl, rfl⟩))
          go_ret
          exact ⟨ret_int (by rw [HE.out, HV.out]), S3.out.2⟩
        · have hmx := HM4.out hwd
          have HWD := Lib.hid hwd
          by_cases q1 : q < 1
          · have HV := Lib.hid (show dcFirst B n = 3 by rw [HLA.out (by rw [HST.out, HWE.out, hwd, if_neg (by decide), if_neg (by omega)]; decide), HST.out, HWE.out, hwd, if_neg (by decide), if_neg (by omega)])
            go_wp2_with (first | (go_at_call 39; refine (isWordR_any t _ hz).mono ?_; rintro e w' ⟨rfl, rfl⟩))
            go_ret
            exact ⟨ret_int (by rw [HE.out, HV.out]), S3.out.2⟩
          · by_cases q2 : 1000000000 < q
            · have HV := Lib.hid (show dcFirst B n = 3 by rw [HLA.out (by rw [HST.out, HWE.out, hwd, if_neg (by decide), if_neg (by omega)]; decide), HST.out, HWE.out, hwd, if_neg (by decide), if_neg (by omega)])
              go_wp2_with (first | (go_at_call 39; refine (isWordR_any t _ hz).mono ?_; rintro e w' ⟨rfl, rfl⟩))
              go_ret
              exact ⟨ret_int (by rw [HE.out, HV.out]), S3.out.2⟩
            · have hlk := strSet_look S3.out.1 hmx
              cases hse : seenT B k t
              · rw [hse] at hlk
                have HV := Lib.hid (show dcFirst B (k + 1) = 0 by rw [HST.out, HWE.out, hwd, if_neg (by decide), if_pos (by omega), hse, if_neg (by decide)])
                obtain ⟨w4, hst4, S4, G4⟩ := strSet_store (f' := seenT B (k + 1)) (x := true) S3.out.1 (by unfold maxLen; omega) hmx (by rw [HNX.out]; simp) (fun u hu => by rw [HNX.out, decide_eq_false (fun e => hu e.symm), Bool.or_false])
                have R4 := Lib.hid (show StrSet (seenT B (k + 1)) b (k + 1) w4 ∧ Below w.heap.size w w4 ∧ dcFirst B (k + 1) = 0 from ⟨S4, S3.out.2.grown G4 S3.out.2.size (fun j hj => by cases hj; rw [HBB.out]; exact Nat.le_refl _), HV.out⟩)
                clear S4 G4
                go_wp2_with (first | (go_at_call 39; refine (isWordR_any t _ hz).mono ?_; rintro e w' ⟨rfl, rfl⟩))
                go_roundw
                case rel => exact ⟨k + 1, by omega, by go_num, R4⟩
                case measure => simp [intOf]; omega
              · rw [hse] at hlk
                have HV := Lib.hid (show dcFirst B n = 6 by rw [HLA.out (by rw [HST.out, HWE.out, hwd, if_neg (by decide), if_pos (by omega), hse, if_pos rfl]; decide), HST.out, HWE.out, hwd, if_neg (by decide), if_pos (by omega), hse, if_pos rfl])
                go_wp2_with (first | (go_at_call 39; refine (isWordR_any t _ hz).mono ?_; rintro e w' ⟨rfl, rfl⟩))
                go_ret
                exact ⟨ret_int (by rw [HE.out, HV.out]), S3.out.2⟩
      · obtain rfl : k = n := by omega
        go_wp2_with fail
        go_ret
        exact ⟨ret_int (by rw [HE.out, HR.out.2.2]), HR.out.2.1⟩

end Go.Proofs.Ytmoplmjfnjgcaaa
