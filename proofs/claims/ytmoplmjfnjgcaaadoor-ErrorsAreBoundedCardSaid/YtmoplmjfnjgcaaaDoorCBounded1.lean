/-
  What bounded_holds leans on: contracts of the functions that it calls.
-/
import Derived.Test.YtmoplmjfnjgcaaaDoorRows
import Derived.WalkKit
import Derived.WalkSpells
import Derived.WalkLawsBesides
import Derived.Lib.Hide
import Derived.Deep.RegionHeld3
import Derived.Shelf.Abstract
import Derived.Lib.TrimByte
import Derived.Shelf.Strings.Trim
import Derived.Shelf.Strings.Repeat
import Derived.Test.YtmoplmjfnjgcaaaDoorProg
import Derived.Lib.MinMax
import Derived.Deep.QuietTactic
import Derived.BigQuiet
import Derived.Deep.CutRange
import Derived.Deep.DeepCutAuto
import Derived.Laws.EntriesVeiled
import Derived.StillTailTactics
import Derived.Deep.OwnRows
namespace Go.Proofs.YtmoplmjfnjgcaaaDoor
open Go.RowKit
set_option linter.unusedSimpArgs false
set_option linter.unusedVariables false

theorem ret_bool {a b : Bool} (h : a = b) : Ending.returned (.bool a) = .returned (.bool b) := by rw [h]

theorem outside_no (n a b : Int) (w : World) (h : a ≤ n ∧ n ≤ b) : Calls Tryd.prog 29 #[.int .i64 n, .int .i64 a, .int .i64 b] w fun r w' => r = .returned (.bool false) ∧ w = w' := by
  obtain ⟨h1, h2⟩ := h
  have h3 : ¬ n < a := by omega
  have h4 : ¬ b < n := by omega
  go_enter Tryd.func29, Tryd.ntmps29
  go_wp2
  go_ret
  exact ⟨rfl, rfl⟩
theorem outside_yes (n a b : Int) (w : World) (h : ¬ (a ≤ n ∧ n ≤ b)) : Calls Tryd.prog 29 #[.int .i64 n, .int .i64 a, .int .i64 b] w fun r w' => r = .returned (.bool true) ∧ w = w' := by
  by_cases h1 : n < a
  · clear h
    go_enter Tryd.func29, Tryd.ntmps29
    go_wp2
    go_ret
    exact ⟨rfl, rfl⟩
  · have h4 : b < n := by omega
    clear h
    go_enter Tryd.func29, Tryd.ntmps29
    go_wp2
    go_ret
    exact ⟨rfl, rfl⟩
end Go.Proofs.YtmoplmjfnjgcaaaDoor
namespace Go.Proofs.YtmoplmjfnjgcaaaDoor
open Go.RowKit
set_option linter.unusedSimpArgs false
set_option linter.unusedVariables false

theorem new_below (w : World) (o : Obj) : Below w.heap.size w (w.alloc o) := (Below.refl _ _).alloc (Nat.le_refl _) _
theorem below_alloc {w a : World} (h : Below w.heap.size w a) (o : Obj) : Below w.heap.size w (a.alloc o) := h.alloc h.size o

end Go.Proofs.YtmoplmjfnjgcaaaDoor
namespace Go.Proofs.YtmoplmjfnjgcaaaDoor
open Go.RowKit
set_option linter.unusedSimpArgs false
set_option linter.unusedVariables false

/-- The first n places of a page that is w wide, row by row. -/
def places {α : Type} (w : Nat) (f : Nat → Nat → α) (n : Nat) : List α := (List.range n).map fun k => f (k % w) (k / w)

theorem below_owns {w w' : World} {base : Nat} {e : TypeId} {size : Nat} {v : Value} {n : Nat} {xs : List Value} (h : w.ownsRow base e size v n xs) (hb : Below w.heap.size w w') : w'.ownsRow base e size v n xs :=
  h.kept (row := none) ⟨hb.os, hb.tape, hb.output, hb.size, fun k hk _ => hb.block k hk⟩ (by cases v.ownBlock <;> simp)

theorem info_int : (Tryd.prog.info? 3).map (fun i => (i.zero, i.size, i.bytes)) = some (some (.int .i64 0), 1, 8) := by kernel_rfl

theorem below_drewN {B : Nat} {a w : World} (h : Below B a w) (q : Nat) : Below B a (w.drewN q) := ⟨h.os, h.tape, h.output, h.size, h.block⟩

end Go.Proofs.YtmoplmjfnjgcaaaDoor
namespace Go.Proofs.YtmoplmjfnjgcaaaDoor
open Go.RowKit
set_option linter.unusedSimpArgs false
set_option linter.unusedVariables false

def smB (c : Int) : Bool := decide (97 ≤ c ∧ c ≤ 122)
def dgB (c : Int) : Bool := decide (48 ≤ c ∧ c ≤ 57)

theorem isSmall_any (c : Int) (w : World) : Calls Tryd.prog 27 #[.int .u8 c] w fun e w' => e = .returned (.bool (smB c)) ∧ w = w' := by
  by_cases h1 : 97 ≤ c
  · by_cases h2 : c ≤ 122
    · have H := Lib.hid (show smB c = true from decide_eq_true ⟨h1, h2⟩)
      go_enter Tryd.func27, Tryd.ntmps27
      go_wp2
      go_ret
      exact ⟨ret_bool H.out.symm, rfl⟩
    · have H := Lib.hid (show smB c = false from decide_eq_false (fun k => h2 k.2))
      go_enter Tryd.func27, Tryd.ntmps27
      go_wp2
      go_ret
      exact ⟨ret_bool H.out.symm, rfl⟩
  · have H := Lib.hid (show smB c = false from decide_eq_false (fun k => h1 k.1))
    go_enter Tryd.func27, Tryd.ntmps27
    go_wp2
    go_ret
    exact ⟨ret_bool H.out.symm, rfl⟩

theorem isDigit_any (c : Int) (w : World) : Calls Tryd.prog 28 #[.int .u8 c] w fun e w' => e = .returned (.bool (dgB c)) ∧ w = w' := by
  by_cases h1 : 48 ≤ c
  · by_cases h2 : c ≤ 57
    · have H := Lib.hid (show dgB c = true from decide_eq_true ⟨h1, h2⟩)
      go_enter Tryd.func28, Tryd.ntmps28
      go_wp2
      go_ret
      exact ⟨ret_bool H.out.symm, rfl⟩
    · have H := Lib.hid (show dgB c = false from decide_eq_false (fun k => h2 k.2))
      go_enter Tryd.func28, Tryd.ntmps28
      go_wp2
      go_ret
      exact ⟨ret_bool H.out.symm, rfl⟩
  · have H := Lib.hid (show dgB c = false from decide_eq_false (fun k => h1 k.1))
    go_enter Tryd.func28, Tryd.ntmps28
    go_wp2
    go_ret
    exact ⟨ret_bool H.out.symm, rfl⟩

/-- The byte at a place, as a number. -/
def byteAt (s : ByteArray) (k : Nat) : Int := ((s.data.toList.getD k 0).toNat : Int)
theorem byteAt_get (s : ByteArray) (k : Nat) (h : k < s.size) : (s[k].toNat : Int) = byteAt s k := by
  unfold byteAt
  rw [List.getD_eq_getElem?_getD, List.getElem?_eq_getElem (by simpa using h)]
  rfl

def goodB (s : ByteArray) (k : Nat) : Bool := smB (byteAt s k) || (decide (k ≠ 0) && (dgB (byteAt s k) || decide (byteAt s k = 45)))
def NameP (s : ByteArray) : Prop := (1 ≤ s.size ∧ s.size ≤ 40) ∧ ∀ k, k < s.size → goodB s k = true

/-- It returns a bool that says whether P. -/
def SaysIf (P : Prop) (w : World) (e : Ending) (w' : World) : Prop := ∃ q, e = .returned (.bool q) ∧ (q = true ↔ P) ∧ w = w'
theorem says_no {P : Prop} {w : World} (h : ¬ P) : SaysIf P w (.returned (.bool false)) w := ⟨false, rfl, by simp [h], rfl⟩
theorem says_yes {P : Prop} {w : World} (h : P) : SaysIf P w (.returned (.bool true)) w := ⟨true, rfl, by simp [h], rfl⟩

theorem good_next {s : ByteArray} {k : Nat} (h : Hid (∀ j, j < k → goodB s j = true)) (hk : Hid (goodB s k = true)) : Hid (∀ j, j < k + 1 → goodB s j = true) :=
  Lib.hid fun j hj => by
    by_cases e : j = k
    · rw [e]; exact hk.out
    · exact h.out j (by omega)

set_option maxHeartbeats 400000 in
theorem isName_any (s : ByteArray) (w : World) (hs : s.size ≤ 9223372036854775807) : Calls Tryd.prog 11 #[.string s] w (SaysIf (NameP s) w) := by
  by_cases h1 : 1 ≤ s.size
  · by_cases h2 : s.size ≤ 40
    · have d1 : decide ((s.size : Int) < 1) = false := by simp; omega
      have d2 : decide ((40 : Int) < (s.size : Int)) = false := by simp; omega
      have hlt0 : 0 < s.size := by omega
      have E0 := Lib.hid (byteAt_get s 0 hlt0)
      by_cases hb : smB (s[0].toNat : Int) = true
      · have HB := Lib.hid (show smB (byteAt s 0) = true by rw [← E0.out]; exact hb)
        have H1 := Lib.hid h1
        have H2 := Lib.hid h2
        clear h1 h2
        go_enter Tryd.func11, Tryd.ntmps11
        go_wp2_with (first | (go_at_call 27; refine (isSmall_any _ _).mono ?_; rintro e w' ⟨rfl, rfl⟩) | (go_at_call 28; refine (isDigit_any _ _).mono ?_; rintro e w' ⟨rfl, rfl⟩))
        clear hb
        go_loop [21] (fun i => ∃ k : Nat, k ≤ s.size ∧ i = .int .i64 k ∧ Hid (∀ j, j < k → goodB s j = true)) (fun i => s.size - (intOf i).toNat)
        case atStart => exact ⟨0, Nat.zero_le _, rfl, fun j hj => by omega⟩
        case round =>
          obtain ⟨k, hk, rfl, hG⟩ := hrel
          by_cases hlt : k < s.size
          · have E := Lib.hid (byteAt_get s k hlt)
            by_cases a1 : smB (s[k].toNat : Int) = true
            · have hg := Lib.hid (show goodB s k = true by unfold goodB; rw [← E.out, a1]; rfl)
              go_wp2_with (first | (go_at_call 27; refine (isSmall_any _ _).mono ?_; rintro e w' ⟨rfl, rfl⟩) | (go_at_call 28; refine (isDigit_any _ _).mono ?_; rintro e w' ⟨rfl, rfl⟩))
              go_round
              case rel => exact ⟨k + 1, by omega, by go_num, good_next hG hg⟩
              case measure => simp [intOf]; omega
            · have a1' : smB (s[k].toNat : Int) = false := by simpa using a1
              have K0 := Lib.hid (show k ≠ 0 from fun e => a1 (by subst e; rw [E.out]; exact HB.out))
              clear a1
              by_cases a2 : dgB (s[k].toNat : Int) = true
              · have hg := Lib.hid (show goodB s k = true by unfold goodB; rw [← E.out, a1', a2]; simp [K0.out])
                go_wp2_with (first | (go_at_call 27; refine (isSmall_any _ _).mono ?_; rintro e w' ⟨rfl, rfl⟩) | (go_at_call 28; refine (isDigit_any _ _).mono ?_; rintro e w' ⟨rfl, rfl⟩))
                go_round
                case rel => exact ⟨k + 1, by omega, by go_num, good_next hG hg⟩
                case measure => simp [intOf]; omega
              · have a2' : dgB (s[k].toNat : Int) = false := by simpa using a2
                clear a2
                by_cases a3 : (s[k].toNat : Int) = 45
                · have a3' : ((s[k].toNat : Int) != 45) = false := by simpa using a3
                  have hg := Lib.hid (show goodB s k = true by unfold goodB; rw [← E.out, a1', a2']; simp [K0.out]; omega)
                  clear a3
                  go_wp2_with (first | (go_at_call 27; refine (isSmall_any _ _).mono ?_; rintro e w' ⟨rfl, rfl⟩) | (go_at_call 28; refine (isDigit_any _ _).mono ?_; rintro e w' ⟨rfl, rfl⟩))
                  go_round
                  case rel => exact ⟨k + 1, by omega, by go_num, good_next hG hg⟩
                  case measure => simp [intOf]; omega
                · have a3' : ((s[k].toNat : Int) != 45) = true := by simpa using a3
                  have hg := Lib.hid (show goodB s k = false by unfold goodB; rw [← E.out, a1', a2']; simp; omega)
                  clear a3
                  go_wp2_with (first | (go_at_call 27; refine (isSmall_any _ _).mono ?_; rintro e w' ⟨rfl, rfl⟩) | (go_at_call 28; refine (isDigit_any _ _).mono ?_; rintro e w' ⟨rfl, rfl⟩))
                  go_ret
                  exact says_no (fun hP => by have := hP.2 k hlt; rw [hg.out] at this; cases this)
          · go_wp2_with (first | (go_at_call 27; refine (isSmall_any _ _).mono ?_; rintro e w' ⟨rfl, rfl⟩) | (go_at_call 28; refine (isDigit_any _ _).mono ?_; rintro e w' ⟨rfl, rfl⟩))
            go_ret
            exact says_yes ⟨⟨H1.out, H2.out⟩, fun j hj => hG.out j (by omega)⟩
      · have hb' : smB (s[0].toNat : Int) = false := by simpa using hb
        have HB := Lib.hid (show goodB s 0 = false by unfold goodB; rw [← E0.out, hb']; rfl)
        clear hb
        go_enter Tryd.func11, Tryd.ntmps11
        go_wp2_with (first | (go_at_call 27; refine (isSmall_any _ _).mono ?_; rintro e w' ⟨rfl, rfl⟩) | (go_at_call 28; refine (isDigit_any _ _).mono ?_; rintro e w' ⟨rfl, rfl⟩))
        go_ret
        exact says_no (fun hP => by have := hP.2 0 hlt0; rw [HB.out] at this; cases this)
    · go_enter Tryd.func11, Tryd.ntmps11
      go_wp2_with (first | (go_at_call 27; refine (isSmall_any _ _).mono ?_; rintro e w' ⟨rfl, rfl⟩) | (go_at_call 28; refine (isDigit_any _ _).mono ?_; rintro e w' ⟨rfl, rfl⟩))
      go_ret
      exact says_no (fun hP => by have := hP.1; omega)
  · go_enter Tryd.func11, Tryd.ntmps11
    go_wp2_with (first | (go_at_call 27; refine (isSmall_any _ _).mono ?_; rintro e w' ⟨rfl, rfl⟩) | (go_at_call 28; refine (isDigit_any _ _).mono ?_; rintro e w' ⟨rfl, rfl⟩))
    go_ret
    exact says_no (fun hP => by have := hP.1; omega)

end Go.Proofs.YtmoplmjfnjgcaaaDoor
namespace Go.Proofs.YtmoplmjfnjgcaaaDoor
open Go.RowKit
set_option linter.unusedSimpArgs false
set_option linter.unusedVariables false

def grB (c : Int) : Bool := decide (65 ≤ c ∧ c ≤ 90)
def letB (c : Int) : Bool := smB c || grB c || decide (128 ≤ c)
def inwB (c : Int) : Bool := letB c || decide (c = 39)

theorem byteAt_end (s : ByteArray) (k : Nat) (h : s.size ≤ k) : byteAt s k = 0 := by
  unfold byteAt
  rw [List.getD_eq_getElem?_getD, List.getElem?_eq_none (by simpa using h)]
  rfl
theorem inw_end (s : ByteArray) : inwB (byteAt s s.size) = false := by rw [byteAt_end s _ (Nat.le_refl _)]; decide

/-- Where the run that ends at k begins. -/
def runBeg (s : ByteArray) : Nat → Nat
  | 0 => 0
  | k + 1 => if inwB (byteAt s k) = true then runBeg s k else k + 1
/-- The first place from e - m on, ahead of e, without an apostrophe; e, if there is none. -/
def fstN (s : ByteArray) (e : Nat) : Nat → Nat
  | 0 => e
  | m + 1 => if byteAt s (e - (m + 1)) = 39 then fstN s e m else e - (m + 1)
/-- The place behind the last byte ahead of k that is no apostrophe. -/
def lstN (s : ByteArray) : Nat → Nat
  | 0 => 0
  | k + 1 => if byteAt s k = 39 then lstN s k else k + 1

theorem fstN_spec (s : ByteArray) (e m : Nat) (hm : m ≤ e) : e - m ≤ fstN s e m ∧ fstN s e m ≤ e ∧ (∀ j, e - m ≤ j → j < fstN s e m → byteAt s j = 39) ∧ (fstN s e m < e → byteAt s (fstN s e m) ≠ 39) := by
  induction m with
  | zero => simp only [fstN]; exact ⟨by omega, by omega, fun j h1 h2 => by omega, fun h => by omega⟩
  | succ m ih =>
    obtain ⟨i1, i2, i3, i4⟩ := ih (by omega)
    rw [fstN]
    by_cases h : byteAt s (e - (m + 1)) = 39
    · rw [if_pos h]
      refine ⟨by omega, i2, fun j h1 h2 => ?_, i4⟩
      by_cases hj : j = e - (m + 1)
      · rw [hj]; exact h
      · exact i3 j (by omega) h2
    · rw [if_neg h]
      exact ⟨by omega, by omega, fun j h1 h2 => by omega, fun _ => h⟩
theorem lstN_spec (s : ByteArray) (k : Nat) : lstN s k ≤ k ∧ (∀ j, lstN s k ≤ j → j < k → byteAt s j = 39) ∧ (0 < lstN s k → byteAt s (lstN s k - 1) ≠ 39) := by
  induction k with
  | zero => simp only [lstN]; exact ⟨by omega, fun j h1 h2 => by omega, fun h => by omega⟩
  | succ k ih =>
    obtain ⟨i1, i2, i3⟩ := ih
    rw [lstN]
    by_cases h : byteAt s k = 39
    · rw [if_pos h]
      refine ⟨by omega, fun j h1 h2 => ?_, i3⟩
      by_cases hj : j = k
      · rw [hj]; exact h
      · exact i2 j h1 (by omega)
    · rw [if_neg h]
      exact ⟨by omega, fun j h1 h2 => by omega, fun _ => by simpa using h⟩
theorem lstN_above (s : ByteArray) (k j : Nat) (hj : j < k) (h : byteAt s j ≠ 39) : j < lstN s k := by
  obtain ⟨_, h2, _⟩ := lstN_spec s k
  exact Nat.lt_of_not_le fun hle => h (h2 j hle hj)

def gapT (d a : Nat) : List (Nat × Nat × Bool) := if d < a then [(d, a, false)] else []
/-- A run from p to e is behind it. -/
def hndT (s : ByteArray) (x : Nat × List (Nat × Nat × Bool)) (p e : Nat) : Nat × List (Nat × Nat × Bool) :=
  if fstN s e (e - p) < e ∧ lstN s e - fstN s e (e - p) ≤ 40 then (lstN s e, x.2 ++ gapT x.1 (fstN s e (e - p)) ++ [(fstN s e (e - p), lstN s e, true)]) else x
/-- What is known behind k bytes: where the last word ends, and the tokens up to there. -/
def tkS (s : ByteArray) : Nat → Nat × List (Nat × Nat × Bool)
  | 0 => (0, [])
  | k + 1 => if inwB (byteAt s k) = true ∧ inwB (byteAt s (k + 1)) = false then hndT s (tkS s k) (runBeg s (k + 1)) (k + 1) else tkS s k
def tkAll (s : ByteArray) : List (Nat × Nat × Bool) := (tkS s s.size).2 ++ gapT (tkS s s.size).1 s.size

theorem tkS_skip (s : ByteArray) (k : Nat) (h : inwB (byteAt s k) = false) : tkS s (k + 1) = tkS s k ∧ runBeg s (k + 1) = k + 1 := by
  rw [tkS, runBeg, if_neg (by simp [h]), if_neg (by simp [h])]
  exact ⟨rfl, rfl⟩
theorem runBeg_run (s : ByteArray) (p e : Nat) (hb : runBeg s p = p) (h : ∀ j, p ≤ j → j < e → inwB (byteAt s j) = true) (he : p ≤ e) : runBeg s e = p := by
  induction e with
  | zero => rw [show p = 0 by omega]; rfl
  | succ e ih =>
    by_cases hp : p = e + 1
    · subst hp; exact hb
    · rw [runBeg, if_pos (h e (by omega) (by omega))]
      exact ih (fun j h1 h2 => h j h1 (by omega)) (by omega)
theorem tkS_in (s : ByteArray) (p k : Nat) (h : ∀ j, p ≤ j → j ≤ k → inwB (byteAt s j) = true) (hk : p ≤ k) : tkS s k = tkS s p := by
  induction k with
  | zero => rw [show p = 0 by omega]
  | succ k ih =>
    by_cases hp : p = k + 1
    · rw [hp]
    · rw [tkS, if_neg (by rw [h (k + 1) (by omega) (Nat.le_refl _)]; simp)]
      exact ih (fun j h1 h2 => h j h1 (by omega)) (by omega)
theorem tkS_run (s : ByteArray) (p e : Nat) (hb : runBeg s p = p) (h : ∀ j, p ≤ j → j < e → inwB (byteAt s j) = true) (he : p < e) (hE : inwB (byteAt s e) = false) : tkS s e = hndT s (tkS s p) p e := by
  obtain ⟨k, rfl⟩ : ∃ k, e = k + 1 := ⟨e - 1, by omega⟩
  rw [tkS, if_pos ⟨h k (by omega) (by omega), hE⟩, runBeg_run s p (k + 1) hb h (by omega), tkS_in s p k (fun j h1 h2 => h j h1 (by omega)) (by omega)]
/-- An empty run turns nothing. -/
theorem hndT_empty (s : ByteArray) (x : Nat × List (Nat × Nat × Bool)) (p : Nat) : hndT s x p p = x := by
  unfold hndT
  rw [if_neg]
  rw [Nat.sub_self]
  simp [fstN]
theorem tkS_next (s : ByteArray) (p e : Nat) (hb : runBeg s p = p) (h : ∀ j, p ≤ j → j < e → inwB (byteAt s j) = true) (he : p ≤ e) (hE : inwB (byteAt s e) = false) : tkS s e = hndT s (tkS s p) p e := by
  rcases Nat.lt_or_eq_of_le he with h1 | h1
  · exact tkS_run s p e hb h h1 hE
  · subst h1; rw [hndT_empty]

/-- Tokens that lie side by side from x to y. -/
def Chn : Nat → List (Nat × Nat × Bool) → Nat → Prop
  | x, [], y => x = y
  | x, (a, b, _) :: T, y => a = x ∧ a < b ∧ Chn b T y
theorem chn_app (x y z : Nat) (T U : List (Nat × Nat × Bool)) (h : Chn x T y) (k : Chn y U z) : Chn x (T ++ U) z := by
  induction T generalizing x with
  | nil => simp only [Chn] at h; subst h; exact k
  | cons t T ih =>
    obtain ⟨a, b, w⟩ := t
    simp only [Chn] at h
    simp only [List.cons_append, Chn]
    exact ⟨h.1, h.2.1, ih b h.2.2⟩
theorem chn_gap (d a : Nat) (h : d ≤ a) : Chn d (gapT d a) a := by
  unfold gapT
  by_cases h1 : d < a
  · rw [if_pos h1]; exact ⟨rfl, h1, rfl⟩
  · rw [if_neg h1]; simp only [Chn]; omega
theorem chn_len (x y : Nat) (T : List (Nat × Nat × Bool)) (h : Chn x T y) : x + T.length ≤ y := by
  induction T generalizing x with
  | nil => simp only [Chn] at h; simp; omega
  | cons t T ih =>
    obtain ⟨a, b, w⟩ := t
    simp only [Chn] at h
    have := ih b h.2.2
    simp only [List.length_cons]
    omega

theorem hndT_ok (s : ByteArray) (x : Nat × List (Nat × Nat × Bool)) (p e : Nat) (hp : p ≤ e) (hx : x.1 ≤ p) (hc : Chn 0 x.2 x.1) : (hndT s x p e).1 ≤ e ∧ x.1 ≤ (hndT s x p e).1 ∧ Chn 0 (hndT s x p e).2 (hndT s x p e).1 := by
  obtain ⟨f1, f2, f3, f4⟩ := fstN_spec s e (e - p) (by omega)
  obtain ⟨l1, l2, l3⟩ := lstN_spec s e
  unfold hndT
  by_cases h : fstN s e (e - p) < e ∧ lstN s e - fstN s e (e - p) ≤ 40
  · have h2 := lstN_above s e _ h.1 (f4 h.1)
    rw [if_pos h]
    refine ⟨l1, by show x.1 ≤ lstN s e; omega, chn_app _ (fstN s e (e - p)) _ _ _ (chn_app _ x.1 _ _ _ hc (chn_gap _ _ (by omega))) ⟨rfl, h2, rfl⟩⟩
  · rw [if_neg h]
    exact ⟨by omega, Nat.le_refl _, hc⟩
theorem runBeg_le (s : ByteArray) (k : Nat) : runBeg s k ≤ k ∧ runBeg s (runBeg s k) = runBeg s k := by
  induction k with
  | zero => exact ⟨Nat.le_refl _, rfl⟩
  | succ k ih =>
    rw [runBeg]
    by_cases h : inwB (byteAt s k) = true
    · rw [if_pos h]; exact ⟨by omega, ih.2⟩
    · rw [if_neg h]; refine ⟨Nat.le_refl _, ?_⟩; rw [runBeg, if_neg h]
theorem tkS_ok (s : ByteArray) (k : Nat) : (tkS s k).1 ≤ (if inwB (byteAt s k) = true then runBeg s k else k) ∧ Chn 0 (tkS s k).2 (tkS s k).1 := by
  induction k with
  | zero => simp [tkS, Chn]
  | succ k ih =>
    obtain ⟨i1, i2⟩ := ih
    rw [tkS]
    by_cases h1 : inwB (byteAt s k) = true
    · rw [if_pos h1] at i1
      by_cases h2 : inwB (byteAt s (k + 1)) = false
      · rw [if_pos ⟨h1, h2⟩, if_neg (by simp [h2])]
        have e1 : runBeg s (k + 1) = runBeg s k := by rw [runBeg, if_pos h1]
        rw [e1]
        have hr := runBeg_le s k
        have := hndT_ok s (tkS s k) (runBeg s k) (k + 1) (by omega) i1 i2
        exact ⟨this.1, this.2.2⟩
      · rw [if_neg (fun h => h2 h.2), if_pos (by simpa using h2)]
        rw [runBeg, if_pos h1]
        exact ⟨i1, i2⟩
    · rw [if_neg (fun h => h1 h.1)]
      rw [if_neg h1] at i1
      have e1 : runBeg s (k + 1) = k + 1 := by rw [runBeg, if_neg h1]
      rw [e1]
      refine ⟨by split <;> omega, i2⟩
theorem tkS_at (s : ByteArray) (p : Nat) (hb : runBeg s p = p) : (tkS s p).1 ≤ p ∧ Chn 0 (tkS s p).2 (tkS s p).1 := by
  have := tkS_ok s p
  rw [hb] at this
  exact ⟨by have h := this.1; split at h <;> exact h, this.2⟩
theorem tkAll_chn (s : ByteArray) : Chn 0 (tkAll s) s.size := by
  have h := tkS_ok s s.size
  rw [inw_end] at h
  simp only [Bool.false_eq_true, if_false] at h
  exact chn_app _ _ _ _ _ h.2 (chn_gap _ _ h.1)
theorem tkAll_len (s : ByteArray) : (tkAll s).length ≤ s.size := by have := chn_len _ _ _ (tkAll_chn s); omega

end Go.Proofs.YtmoplmjfnjgcaaaDoor
namespace Go.Proofs.YtmoplmjfnjgcaaaDoor
open Go.RowKit
set_option linter.unusedSimpArgs false
set_option linter.unusedVariables false

theorem isSmallW_any (c : Int) (w : World) : Calls Tryd.prog 47 #[.int .u8 c] w fun e w' => e = .returned (.bool (smB c)) ∧ w = w' := by
  by_cases h1 : 97 ≤ c
  · by_cases h2 : c ≤ 122
    · have H := Lib.hid (show smB c = true from decide_eq_true ⟨h1, h2⟩)
      go_enter Tryd.func47, Tryd.ntmps47
      go_wp2
      go_ret
      exact ⟨ret_bool H.out.symm, rfl⟩
    · have H := Lib.hid (show smB c = false from decide_eq_false (fun k => h2 k.2))
      go_enter Tryd.func47, Tryd.ntmps47
      go_wp2
      go_ret
      exact ⟨ret_bool H.out.symm, rfl⟩
  · have H := Lib.hid (show smB c = false from decide_eq_false (fun k => h1 k.1))
    go_enter Tryd.func47, Tryd.ntmps47
    go_wp2
    go_ret
    exact ⟨ret_bool H.out.symm, rfl⟩

theorem isGreatW_any (c : Int) (w : World) : Calls Tryd.prog 48 #[.int .u8 c] w fun e w' => e = .returned (.bool (grB c)) ∧ w = w' := by
  by_cases h1 : 65 ≤ c
  · by_cases h2 : c ≤ 90
    · have H := Lib.hid (show grB c = true from decide_eq_true ⟨h1, h2⟩)
      go_enter Tryd.func48, Tryd.ntmps48
      go_wp2
      go_ret
      exact ⟨ret_bool H.out.symm, rfl⟩
    · have H := Lib.hid (show grB c = false from decide_eq_false (fun k => h2 k.2))
      go_enter Tryd.func48, Tryd.ntmps48
      go_wp2
      go_ret
      exact ⟨ret_bool H.out.symm, rfl⟩
  · have H := Lib.hid (show grB c = false from decide_eq_false (fun k => h1 k.1))
    go_enter Tryd.func48, Tryd.ntmps48
    go_wp2
    go_ret
    exact ⟨ret_bool H.out.symm, rfl⟩

theorem isLetter_any (c : Int) (w : World) : Calls Tryd.prog 30 #[.int .u8 c] w fun e w' => e = .returned (.bool (letB c)) ∧ w = w' := by
  cases hs : smB c
  · cases hg : grB c
    · by_cases h : 128 ≤ c
      · have H := Lib.hid (show letB c = true by unfold letB; rw [hs, hg]; simp [h])
        go_enter Tryd.func30, Tryd.ntmps30
        go_wp2_with (first | (go_at_call 47; refine (isSmallW_any _ _).mono ?_; rintro e w' ⟨rfl, rfl⟩) | (go_at_call 48; refine (isGreatW_any _ _).mono ?_; rintro e w' ⟨rfl, rfl⟩))
        go_ret
        exact ⟨ret_bool H.out.symm, rfl⟩
      · have H := Lib.hid (show letB c = false by unfold letB; rw [hs, hg]; simp [h])
        go_enter Tryd.func30, Tryd.ntmps30
        go_wp2_with (first | (go_at_call 47; refine (isSmallW_any _ _).mono ?_; rintro e w' ⟨rfl, rfl⟩) | (go_at_call 48; refine (isGreatW_any _ _).mono ?_; rintro e w' ⟨rfl, rfl⟩))
        go_ret
        exact ⟨ret_bool (by rw [H.out]; exact decide_eq_false (by omega)), rfl⟩
    · have H := Lib.hid (show letB c = true by unfold letB; rw [hs, hg]; simp)
      go_enter Tryd.func30, Tryd.ntmps30
      go_wp2_with (first | (go_at_call 47; refine (isSmallW_any _ _).mono ?_; rintro e w' ⟨rfl, rfl⟩) | (go_at_call 48; refine (isGreatW_any _ _).mono ?_; rintro e w' ⟨rfl, rfl⟩))
      go_ret
      exact ⟨ret_bool H.out.symm, rfl⟩
  · have H := Lib.hid (show letB c = true by unfold letB; rw [hs]; simp)
    go_enter Tryd.func30, Tryd.ntmps30
    go_wp2_with (first | (go_at_call 47; refine (isSmallW_any _ _).mono ?_; rintro e w' ⟨rfl, rfl⟩) | (go_at_call 48; refine (isGreatW_any _ _).mono ?_; rintro e w' ⟨rfl, rfl⟩))
    go_ret
    exact ⟨ret_bool H.out.symm, rfl⟩

theorem inWord_any (c : Int) (w : World) : Calls Tryd.prog 31 #[.int .u8 c] w fun e w' => e = .returned (.bool (inwB c)) ∧ w = w' := by
  cases hl : letB c
  · by_cases h : c = 39
    · have H := Lib.hid (show inwB c = true by unfold inwB; rw [hl]; simp [h])
      have h' : (c == 39) = true := by simp [h]
      clear h
      go_enter Tryd.func31, Tryd.ntmps31
      go_wp2_with (first | (go_at_call 30; refine (isLetter_any _ _).mono ?_; rintro e w' ⟨rfl, rfl⟩))
      go_ret
      exact ⟨ret_bool (by rw [H.out]; exact h'), rfl⟩
    · have H := Lib.hid (show inwB c = false by unfold inwB; rw [hl]; simp [h])
      have h' : (c == 39) = false := by simp [h]
      go_enter Tryd.func31, Tryd.ntmps31
      go_wp2_with (first | (go_at_call 30; refine (isLetter_any _ _).mono ?_; rintro e w' ⟨rfl, rfl⟩))
      go_ret
      exact ⟨ret_bool (by rw [H.out]; exact h'), rfl⟩
  · have H := Lib.hid (show inwB c = true by unfold inwB; rw [hl]; simp)
    go_enter Tryd.func31, Tryd.ntmps31
    go_wp2_with (first | (go_at_call 30; refine (isLetter_any _ _).mono ?_; rintro e w' ⟨rfl, rfl⟩))
    go_ret
    exact ⟨ret_bool H.out.symm, rfl⟩

/-- Where the run from p on ends. -/
def endN (s : ByteArray) : Nat → Nat
  | 0 => s.size
  | m + 1 => if inwB (byteAt s (s.size - (m + 1))) = true then endN s m else s.size - (m + 1)
def endOf (s : ByteArray) (p : Nat) : Nat := endN s (s.size - p)
theorem endN_spec (s : ByteArray) (m : Nat) (hm : m ≤ s.size) : s.size - m ≤ endN s m ∧ endN s m ≤ s.size ∧ (∀ j, s.size - m ≤ j → j < endN s m → inwB (byteAt s j) = true) ∧ inwB (byteAt s (endN s m)) = false := by
  induction m with
  | zero => simp only [endN]; exact ⟨by omega, by omega, fun j h1 h2 => by omega, inw_end s⟩
  | succ m ih =>
    obtain ⟨i1, i2, i3, i4⟩ := ih (by omega)
    rw [endN]
    by_cases h : inwB (byteAt s (s.size - (m + 1))) = true
    · rw [if_pos h]
      refine ⟨by omega, i2, fun j h1 h2 => ?_, i4⟩
      by_cases hj : j = s.size - (m + 1)
      · rw [hj]; exact h
      · exact i3 j (by omega) h2
    · rw [if_neg h]
      exact ⟨by omega, by omega, fun j h1 h2 => by omega, by simpa using h⟩
theorem endOf_spec (s : ByteArray) (p : Nat) (hp : p ≤ s.size) : p ≤ endOf s p ∧ endOf s p ≤ s.size ∧ (∀ j, p ≤ j → j < endOf s p → inwB (byteAt s j) = true) ∧ inwB (byteAt s (endOf s p)) = false := by
  have := endN_spec s (s.size - p) (by omega)
  unfold endOf
  rw [show s.size - (s.size - p) = p by omega] at this
  exact this
theorem endOf_eq (s : ByteArray) (p k : Nat) (hp : p ≤ k) (hk : k ≤ s.size) (h1 : ∀ j, p ≤ j → j < k → inwB (byteAt s j) = true) (h2 : inwB (byteAt s k) = false) : endOf s p = k := by
  obtain ⟨e1, e2, e3, e4⟩ := endOf_spec s p (by omega)
  rcases Nat.lt_trichotomy (endOf s p) k with h | h | h
  · rw [h1 _ e1 h] at e4; simp at e4
  · exact h
  · rw [e3 k hp h] at h2; simp at h2
theorem endOf_in (s : ByteArray) (p k : Nat) (hp : p ≤ s.size) (h1 : p ≤ k) (h2 : k ≤ endOf s p) : endOf s k = endOf s p := by
  obtain ⟨e1, e2, e3, e4⟩ := endOf_spec s p hp
  exact endOf_eq s k _ h2 e2 (fun j a b => e3 j (by omega) b) e4

set_option maxHeartbeats 400000 in
theorem runEnd_any (s : ByteArray) (p : Nat) (w : World) (hp : p ≤ s.size) (hs : s.size ≤ 9223372036854775807) : Calls Tryd.prog 14 #[.string s, .int .i64 p] w fun e w' => e = .returned (.int .i64 (endOf s p)) ∧ w = w' := by
  go_enter Tryd.func14, Tryd.ntmps14
  go_wp2_with fail
  go_loop [1] (fun i => ∃ k : Nat, p ≤ k ∧ k ≤ s.size ∧ i = .int .i64 k ∧ Hid (∀ j, p ≤ j → j < k → inwB (byteAt s j) = true)) (fun i => s.size - (intOf i).toNat)
  case atStart => exact ⟨p, Nat.le_refl _, hp, rfl, Lib.hid (fun j h1 h2 => by omega)⟩
  case round =>
    obtain ⟨k, hpk, hk, rfl, HI⟩ := hrel
    by_cases hlt : k < s.size
    · have i1 : (k : Int) < (s.size : Int) := by omega
      cases hb : inwB (s[k].toNat : Int)
      · have HE := Lib.hid (endOf_eq s p k hpk hk HI.out (by rw [← byteAt_get s k hlt]; exact hb))
        go_wp2_with (first | (go_at_call 31; refine (inWord_any _ _).mono ?_; rintro e w' ⟨rfl, rfl⟩))
        go_ret
        exact ⟨by rw [HE.out]; rfl, rfl⟩
      · have HB := Lib.hid (show inwB (byteAt s k) = true by rw [← byteAt_get s k hlt]; exact hb)
        go_wp2_with (first | (go_at_call 31; refine (inWord_any _ _).mono ?_; rintro e w' ⟨rfl, rfl⟩))
        go_round
        case rel => exact ⟨k + 1, by omega, by omega, by go_num, Lib.hid (fun j h1 h2 => by
          by_cases e : j = k
          · rw [e]; exact HB.out
          · exact HI.out j h1 (by omega))⟩
        case measure => simp [intOf]; omega
    · have i1 : ¬ (k : Int) < (s.size : Int) := by omega
      have HE := Lib.hid (endOf_eq s p k hpk hk HI.out (by rw [show k = s.size by omega]; exact inw_end s))
      go_wp2_with fail
      go_ret
      exact ⟨by rw [HE.out]; rfl, rfl⟩

theorem byteAt_sub (s : ByteArray) (a b i : Nat) (hb : b ≤ s.size) (hi : i < b - a) : byteAt (s.extract a b) i = byteAt s (a + i) := by
  unfold byteAt
  congr 2
  rw [List.getD_eq_getElem?_getD, List.getD_eq_getElem?_getD]
  congr 1
  simp only [ByteArray.data_extract, Array.toList_extract, List.getElem?_toArray]
  rw [List.extract_eq_take_drop, List.getElem?_take, List.getElem?_drop, if_pos hi]
theorem size_sub (s : ByteArray) (a b : Nat) (hb : b ≤ s.size) : (s.extract a b).size = b - a := by rw [ByteArray.size_extract]; omega

/-- What TrimLeft of a run leaves. -/
theorem trimL_len (s : ByteArray) (p e : Nat) (hp : p ≤ e) (he : e ≤ s.size) : (Lib.trimLeftB (s.extract p e).data.toList 39).length = e - fstN s e (e - p) := by
  obtain ⟨f1, f2, f3, f4⟩ := fstN_spec s e (e - p) (by omega)
  rw [show e - (e - p) = p by omega] at f1 f3
  have hl : (s.extract p e).data.toList.length = e - p := by rw [Array.length_toList]; exact size_sub s p e he
  have hg : ∀ j b, (s.extract p e).data.toList[j]? = some b → j < e - p ∧ ((b.toNat : Int)) = byteAt s (p + j) := fun j b h => by
    have hj : j < e - p := by rw [← hl]; exact (List.getElem?_eq_some_iff.1 h).1
    refine ⟨hj, ?_⟩
    rw [← byteAt_sub s p e j he hj]
    unfold byteAt
    rw [List.getD_eq_getElem?_getD, h]; rfl
  have h39 : ∀ b : UInt8, b = 39 ↔ (b.toNat : Int) = 39 := fun b => ⟨fun h => by rw [h]; rfl, fun h => UInt8.toNat_inj.1 (by have : ((39 : UInt8).toNat : Int) = 39 := rfl; omega)⟩
  rw [Lib.trimLeftB_drop _ 39 (fstN s e (e - p) - p) (by rw [hl]; omega) (fun j b hj h => by
    obtain ⟨h1, h2⟩ := hg j b h
    rw [h39, h2]; exact f3 (p + j) (by omega) (by omega)) (fun b h => by
    obtain ⟨h1, h2⟩ := hg _ b h
    rw [Ne, h39, h2, show p + (fstN s e (e - p) - p) = fstN s e (e - p) by omega]
    exact f4 (by omega))]
  rw [List.length_drop, hl]; omega
/-- What TrimRight leaves: of a part with a byte that is no apostrophe, and of one without. -/
theorem trimR_len (s : ByteArray) (p e : Nat) (hp : p ≤ e) (he : e ≤ s.size) (h : p ≤ lstN s e) : (Lib.trimRightB (s.extract p e).data.toList 39).length = lstN s e - p := by
  obtain ⟨f1, f2, f3⟩ := lstN_spec s e
  have hl : (s.extract p e).data.toList.length = e - p := by rw [Array.length_toList]; exact size_sub s p e he
  have hg : ∀ j b, (s.extract p e).data.toList[j]? = some b → j < e - p ∧ ((b.toNat : Int)) = byteAt s (p + j) := fun j b h => by
    have hj : j < e - p := by rw [← hl]; exact (List.getElem?_eq_some_iff.1 h).1
    refine ⟨hj, ?_⟩
    rw [← byteAt_sub s p e j he hj]
    unfold byteAt
    rw [List.getD_eq_getElem?_getD, h]; rfl
  have h39 : ∀ b : UInt8, b = 39 ↔ (b.toNat : Int) = 39 := fun b => ⟨fun h => by rw [h]; rfl, fun h => UInt8.toNat_inj.1 (by have : ((39 : UInt8).toNat : Int) = 39 := rfl; omega)⟩
  rw [Lib.trimRightB_take _ 39 (lstN s e - p) (by rw [hl]; omega) (fun j b hj h => by
    obtain ⟨h1, h2⟩ := hg j b h
    rw [h39, h2]; exact f2 (p + j) (by omega) (by omega)) (fun b h0 h => by
    obtain ⟨h1, h2⟩ := hg _ b h
    rw [Ne, h39, h2, show p + (lstN s e - p - 1) = lstN s e - 1 by omega]
    exact f3 (by omega))]
  rw [List.length_take, hl]; omega
end Go.Proofs.YtmoplmjfnjgcaaaDoor
namespace Go.Proofs
open Go.Shelf
def Tryd.lays161_ren : Go.Shelf.Ren := ⟨fun | 161 => 17 | 231 => 32 | 227 => 33 | 233 => 34 | 235 => 35 | 228 => 49 | 197 => 50 | 151 => 51 | 260 => 57 | 152 => 58 | 137 => 62 | 119 => 63 | 224 => 64 | 225 => 65 | 217 => 67 | 266 => 69 | n => n, fun | 9 => 9 | 4 => 4 | 3 => 3 | 5 => 5 | 117 => 62 | 116 => 61 | 0 => 0 | 124 => 65 | 105 => 78 | 21 => 21 | 119 => 97 | 46 => 43 | 139 => 100 | 138 => 99 | n => n, fun | 3 => 1 | 4 => 2 | n => n⟩
theorem Tryd.lays161 : Go.Proofs.Lays.n161 Tryd.prog Tryd.lays161_ren := {
  mixed := by kernel_rfl
  f119 := Tryd.func63.trans (congrArg some (by kernel_rfl))
  f137 := Tryd.func62.trans (congrArg some (by kernel_rfl))
  f151 := Tryd.func51.trans (congrArg some (by kernel_rfl))
  f152 := Tryd.func58.trans (congrArg some (by kernel_rfl))
  f161 := Tryd.func17.trans (congrArg some (by kernel_rfl))
  f197 := Tryd.func50.trans (congrArg some (by kernel_rfl))
  f217 := Tryd.func67.trans (congrArg some (by kernel_rfl))
  f224 := Tryd.func64.trans (congrArg some (by kernel_rfl))
  f225 := Tryd.func65.trans (congrArg some (by kernel_rfl))
  f227 := Tryd.func33.trans (congrArg some (by kernel_rfl))
  f228 := Tryd.func49.trans (congrArg some (by kernel_rfl))
  f231 := Tryd.func32.trans (congrArg some (by kernel_rfl))
  f233 := Tryd.func34.trans (congrArg some (by kernel_rfl))
  f235 := Tryd.func35.trans (congrArg some (by kernel_rfl))
  f260 := Tryd.func57.trans (congrArg some (by kernel_rfl))
  f266 := Tryd.func69.trans (congrArg some (by kernel_rfl))
  t0 := Tryd.underlying0
  a0 := Tryd.isAgg0
  z0 := Tryd.sizeOf0
  v0 := Tryd.zeroValue0
  t3 := Tryd.underlying3
  a3 := Tryd.isAgg3
  z3 := Tryd.sizeOf3
  v3 := Tryd.zeroValue3
  t4 := Tryd.underlying4
  a4 := Tryd.isAgg4
  z4 := Tryd.sizeOf4
  v4 := Tryd.zeroValue4
  t5 := Tryd.underlying5
  a5 := Tryd.isAgg5
  z5 := Tryd.sizeOf5
  v5 := Tryd.zeroValue5
  t9 := Tryd.underlying9
  a9 := Tryd.isAgg9
  z9 := Tryd.sizeOf9
  v9 := Tryd.zeroValue9
  t21 := Tryd.underlying21
  a21 := Tryd.isAgg21
  z21 := Tryd.sizeOf21
  v21 := Tryd.zeroValue21
  t46 := Tryd.underlying43
  a46 := Tryd.isAgg43
  z46 := Tryd.sizeOf43
  v46 := Tryd.zeroValue43
  t105 := Tryd.underlying78
  a105 := Tryd.isAgg78
  z105 := Tryd.sizeOf78
  v105 := Tryd.zeroValue78
  t116 := Tryd.underlying61
  a116 := Tryd.isAgg61
  z116 := Tryd.sizeOf61
  t117 := Tryd.underlying62
  a117 := Tryd.isAgg62
  z117 := Tryd.sizeOf62
  v117 := Tryd.zeroValue62
  t119 := Tryd.underlying97
  a119 := Tryd.isAgg97
  z119 := Tryd.sizeOf97
  t124 := Tryd.underlying65
  a124 := Tryd.isAgg65
  z124 := Tryd.sizeOf65
  v124 := Tryd.zeroValue65
  t138 := Tryd.underlying99
  a138 := Tryd.isAgg99
  z138 := Tryd.sizeOf99
  v138 := Tryd.zeroValue99
  t139 := Tryd.underlying100
  a139 := Tryd.isAgg100
  z139 := Tryd.sizeOf100
  v139 := Tryd.zeroValue100
  g3 := by kernel_rfl
  g4 := by kernel_rfl }
open Go.RowKit in
/-- strings.TrimLeft: "TrimLeft returns a slice of the string s with all leading Unicode code points contained in cutset removed.": AT A cutset OF ONE ASCII BYTE. The world is as it was. (LAID: no walk: one application.) -/
theorem Tryd.strings_TrimLeft_one (s : ByteArray) (c : UInt8) (hc : c.toNat < 128) (w : World) :
    Calls Tryd.prog 17 #[.string s, .string ⟨#[c]⟩] w fun e w' => e = .returned (.string ⟨(Lib.trimLeftB s.data.toList c).toArray⟩) ∧ w' = w := Any.strings_TrimLeft_one Tryd.lays161 s c hc w
def Tryd.lays162_ren : Go.Shelf.Ren := ⟨fun | 162 => 18 | 232 => 36 | 227 => 33 | 234 => 37 | 236 => 38 | 228 => 49 | 271 => 52 | 151 => 51 | 120 => 59 | 197 => 50 | 152 => 58 | 260 => 57 | 137 => 62 | 119 => 63 | 224 => 64 | 225 => 65 | 217 => 67 | 266 => 69 | n => n, fun | 9 => 9 | 4 => 4 | 3 => 3 | 5 => 5 | 117 => 62 | 116 => 61 | 0 => 0 | 124 => 65 | 21 => 21 | 105 => 78 | 46 => 43 | 119 => 97 | 139 => 100 | 138 => 99 | n => n, fun | 3 => 1 | 4 => 2 | n => n⟩
theorem Tryd.lays162 : Go.Proofs.Lays.n162 Tryd.prog Tryd.lays162_ren := {
  mixed := by kernel_rfl
  f119 := Tryd.func63.trans (congrArg some (by kernel_rfl))
  f120 := Tryd.func59.trans (congrArg some (by kernel_rfl))
  f137 := Tryd.func62.trans (congrArg some (by kernel_rfl))
  f151 := Tryd.func51.trans (congrArg some (by kernel_rfl))
  f152 := Tryd.func58.trans (congrArg some (by kernel_rfl))
  f162 := Tryd.func18.trans (congrArg some (by kernel_rfl))
  f197 := Tryd.func50.trans (congrArg some (by kernel_rfl))
  f217 := Tryd.func67.trans (congrArg some (by kernel_rfl))
  f224 := Tryd.func64.trans (congrArg some (by kernel_rfl))
  f225 := Tryd.func65.trans (congrArg some (by kernel_rfl))
  f227 := Tryd.func33.trans (congrArg some (by kernel_rfl))
  f228 := Tryd.func49.trans (congrArg some (by kernel_rfl))
  f232 := Tryd.func36.trans (congrArg some (by kernel_rfl))
  f234 := Tryd.func37.trans (congrArg some (by kernel_rfl))
  f236 := Tryd.func38.trans (congrArg some (by kernel_rfl))
  f260 := Tryd.func57.trans (congrArg some (by kernel_rfl))
  f266 := Tryd.func69.trans (congrArg some (by kernel_rfl))
  f271 := Tryd.func52.trans (congrArg some (by kernel_rfl))
  t0 := Tryd.underlying0
  a0 := Tryd.isAgg0
  z0 := Tryd.sizeOf0
  v0 := Tryd.zeroValue0
  t3 := Tryd.underlying3
  a3 := Tryd.isAgg3
  z3 := Tryd.sizeOf3
  v3 := Tryd.zeroValue3
  t4 := Tryd.underlying4
  a4 := Tryd.isAgg4
  z4 := Tryd.sizeOf4
  v4 := Tryd.zeroValue4
  t5 := Tryd.underlying5
  a5 := Tryd.isAgg5
  z5 := Tryd.sizeOf5
  v5 := Tryd.zeroValue5
  t9 := Tryd.underlying9
  a9 := Tryd.isAgg9
  z9 := Tryd.sizeOf9
  v9 := Tryd.zeroValue9
  t21 := Tryd.underlying21
  a21 := Tryd.isAgg21
  z21 := Tryd.sizeOf21
  v21 := Tryd.zeroValue21
  t46 := Tryd.underlying43
  a46 := Tryd.isAgg43
  z46 := Tryd.sizeOf43
  v46 := Tryd.zeroValue43
  t105 := Tryd.underlying78
  a105 := Tryd.isAgg78
  z105 := Tryd.sizeOf78
  v105 := Tryd.zeroValue78
  t116 := Tryd.underlying61
  a116 := Tryd.isAgg61
  z116 := Tryd.sizeOf61
  t117 := Tryd.underlying62
  a117 := Tryd.isAgg62
  z117 := Tryd.sizeOf62
  v117 := Tryd.zeroValue62
  t119 := Tryd.underlying97
  a119 := Tryd.isAgg97
  z119 := Tryd.sizeOf97
  t124 := Tryd.underlying65
  a124 := Tryd.isAgg65
  z124 := Tryd.sizeOf65
  v124 := Tryd.zeroValue65
  t138 := Tryd.underlying99
  a138 := Tryd.isAgg99
  z138 := Tryd.sizeOf99
  v138 := Tryd.zeroValue99
  t139 := Tryd.underlying100
  a139 := Tryd.isAgg100
  z139 := Tryd.sizeOf100
  v139 := Tryd.zeroValue100
  g3 := by kernel_rfl
  g4 := by kernel_rfl }
open Go.RowKit in
/-- strings.TrimRight: "TrimRight returns a slice of the string s, with all trailing Unicode code points contained in cutset removed.": AT A cutset OF ONE ASCII BYTE. The world is as it was. (LAID: no walk: one application.) -/
theorem Tryd.strings_TrimRight_one (s : ByteArray) (c : UInt8) (hc : c.toNat < 128) (w : World) (hs : s.size ≤ 9223372036854775807) :
    Calls Tryd.prog 18 #[.string s, .string ⟨#[c]⟩] w fun e w' => e = .returned (.string ⟨(Lib.trimRightB s.data.toList c).toArray⟩) ∧ w' = w := Any.strings_TrimRight_one Tryd.lays162 s c hc w hs
def Tryd.lays105_ren : Go.Shelf.Ren := ⟨fun | 105 => 10 | 212 => 21 | 99 => 22 | 165 => 23 | 166 => 24 | 170 => 25 | 169 => 26 | 263 => 42 | 264 => 43 | 206 => 44 | 240 => 45 | 241 => 46 | 276 => 55 | 277 => 56 | n => n, fun | 9 => 9 | 3 => 3 | 4 => 4 | 20 => 20 | 0 => 0 | 46 => 43 | 109 => 44 | 5 => 5 | 72 => 50 | 76 => 54 | 51 => 71 | 146 => 72 | 53 => 74 | 148 => 75 | 70 => 47 | 37 => 48 | 75 => 53 | 127 => 77 | 164 => 92 | 80 => 57 | n => n, fun | n => n⟩
theorem Tryd.lays105 : Go.Proofs.Lays.n105 Tryd.prog Tryd.lays105_ren := {
  mixed := by kernel_rfl
  f99 := Tryd.func22.trans (congrArg some (by kernel_rfl))
  f105 := Tryd.func10.trans (congrArg some (by kernel_rfl))
  f165 := Tryd.func23.trans (congrArg some (by kernel_rfl))
  f166 := Tryd.func24.trans (congrArg some (by kernel_rfl))
  f169 := Tryd.func26.trans (congrArg some (by kernel_rfl))
  f170 := Tryd.func25.trans (congrArg some (by kernel_rfl))
  f206 := Tryd.func44.trans (congrArg some (by kernel_rfl))
  f212 := Tryd.func21.trans (congrArg some (by kernel_rfl))
  f240 := Tryd.func45.trans (congrArg some (by kernel_rfl))
  f241 := Tryd.func46.trans (congrArg some (by kernel_rfl))
  f263 := Tryd.func42.trans (congrArg some (by kernel_rfl))
  f264 := Tryd.func43.trans (congrArg some (by kernel_rfl))
  f276 := Tryd.func55.trans (congrArg some (by kernel_rfl))
  f277 := Tryd.func56.trans (congrArg some (by kernel_rfl))
  t0 := Tryd.underlying0
  a0 := Tryd.isAgg0
  z0 := Tryd.sizeOf0
  v0 := Tryd.zeroValue0
  t3 := Tryd.underlying3
  a3 := Tryd.isAgg3
  z3 := Tryd.sizeOf3
  v3 := Tryd.zeroValue3
  t4 := Tryd.underlying4
  a4 := Tryd.isAgg4
  z4 := Tryd.sizeOf4
  v4 := Tryd.zeroValue4
  t5 := Tryd.underlying5
  a5 := Tryd.isAgg5
  z5 := Tryd.sizeOf5
  v5 := Tryd.zeroValue5
  t9 := Tryd.underlying9
  a9 := Tryd.isAgg9
  z9 := Tryd.sizeOf9
  v9 := Tryd.zeroValue9
  t20 := Tryd.underlying20
  a20 := Tryd.isAgg20
  z20 := Tryd.sizeOf20
  v20 := Tryd.zeroValue20
  t37 := Tryd.underlying48
  a37 := Tryd.isAgg48
  z37 := Tryd.sizeOf48
  v37 := Tryd.zeroValue48
  t46 := Tryd.underlying43
  a46 := Tryd.isAgg43
  z46 := Tryd.sizeOf43
  v46 := Tryd.zeroValue43
  t51 := Tryd.underlying71
  a51 := Tryd.isAgg71
  z51 := Tryd.sizeOf71
  v51 := Tryd.zeroValue71
  t53 := Tryd.underlying74
  a53 := Tryd.isAgg74
  z53 := Tryd.sizeOf74
  v53 := Tryd.zeroValue74
  t70 := Tryd.underlying47
  a70 := Tryd.isAgg47
  z70 := Tryd.sizeOf47
  v70 := Tryd.zeroValue47
  t72 := Tryd.underlying50
  a72 := Tryd.isAgg50
  z72 := Tryd.sizeOf50
  v72 := Tryd.zeroValue50
  t75 := Tryd.underlying53
  a75 := Tryd.isAgg53
  z75 := Tryd.sizeOf53
  v75 := Tryd.zeroValue53
  t76 := Tryd.underlying54
  a76 := Tryd.isAgg54
  z76 := Tryd.sizeOf54
  v76 := Tryd.zeroValue54
  t109 := Tryd.underlying44
  a109 := Tryd.isAgg44
  z109 := Tryd.sizeOf44
  v109 := Tryd.zeroValue44
  t127 := Tryd.underlying77
  a127 := Tryd.isAgg77
  z127 := Tryd.sizeOf77
  v127 := Tryd.zeroValue77
  t146 := Tryd.underlying72
  a146 := Tryd.isAgg72
  z146 := Tryd.sizeOf72
  v146 := Tryd.zeroValue72
  t148 := Tryd.underlying75
  a148 := Tryd.isAgg75
  z148 := Tryd.sizeOf75
  v148 := Tryd.zeroValue75
  t164 := Tryd.underlying92
  a164 := Tryd.isAgg92
  z164 := Tryd.sizeOf92
  v164 := Tryd.zeroValue92 }
theorem Tryd.Builder_Extra_105 : Builder.Extra Tryd.prog Tryd.lays105_ren := {
  sizeBuilder := by kernel_rfl
  liesBuilder := by kernel_rfl
  t5 := Tryd.underlying5
  a5 := Tryd.isAgg5
  z5 := Tryd.sizeOf5
  v5 := Tryd.zeroValue5
  infoByte := by kernel_rfl
  cellsByte := by kernel_rfl
  sizeByte := by kernel_rfl
  neB5 := by decide }
open Go.RowKit Go.Lib in
/-- **strings.Repeat: count ≥ 0, the result within one allocation: count copies of s.** (LAID: no walk: one application.) -/
theorem Tryd.strings_Repeat (s : ByteArray) (c : Nat) (w : World) (hc : c ≤ 9223372036854775807) (hlen : s.size * c ≤ 140737488355328) :
    Calls Tryd.prog 10 #[.string s, .int .i64 c] w fun e w' => e = .returned (.string ⟨(Lib.repeatL s.data.toList c).toArray⟩) ∧ Below w.heap.size w w' := Any.strings_Repeat Tryd.lays105 Tryd.Builder_Extra_105 s c w hc hlen
end Go.Proofs
namespace Go.Proofs.YtmoplmjfnjgcaaaDoor
open Go.RowKit
set_option linter.unusedSimpArgs false
set_option linter.unusedVariables false

theorem size_list (l : List UInt8) : (⟨l.toArray⟩ : ByteArray).size = l.length := by show l.toArray.size = _; simp

theorem trimLeft_sub (s : ByteArray) (p e : Nat) (w : World) (hp : p ≤ e) (he : e ≤ s.size) (hs : s.size ≤ 9223372036854775807) :
    Calls Tryd.prog 17 #[.string (s.extract p e), .string ⟨#[39]⟩] w fun r w' => (∃ t, r = .returned (.string t) ∧ IntKind.i64.wrap ((e : Int) - (t.size : Int)) = ((fstN s e (e - p) : Nat) : Int) ∧ t.size = e - fstN s e (e - p)) ∧ w = w' := by
  refine (Tryd.strings_TrimLeft_one (s.extract p e) 39 (by decide) w).mono ?_
  rintro r w' ⟨rfl, rfl⟩
  have h := trimL_len s p e hp he
  obtain ⟨f1, f2, _⟩ := fstN_spec s e (e - p) (by omega)
  have h2 : (⟨(Lib.trimLeftB (s.extract p e).data.toList 39).toArray⟩ : ByteArray).size = e - fstN s e (e - p) := by rw [size_list, h]
  exact ⟨⟨_, rfl, by rw [h2, show (e : Int) - ((e - fstN s e (e - p) : Nat) : Int) = ((fstN s e (e - p) : Nat) : Int) by omega]; exact IntWalk.i64_in _ (by omega), h2⟩, rfl⟩

/-- Where what may be a word ends, which begins at a. -/
def wrdEnd (s : ByteArray) (a e : Nat) : Nat := if a < e then lstN s e else e

theorem trimRight_sub (s : ByteArray) (p e : Nat) (w : World) (hp : p ≤ e) (he : e ≤ s.size) (hs : s.size ≤ 9223372036854775807) (h39 : p < e → byteAt s p ≠ 39) :
    Calls Tryd.prog 18 #[.string (s.extract p e), .string ⟨#[39]⟩] w fun r w' => (∃ t, r = .returned (.string t) ∧ IntKind.i64.wrap ((p : Int) + (t.size : Int)) = ((wrdEnd s p e : Nat) : Int) ∧ t.size = wrdEnd s p e - p) ∧ w = w' := by
  have hz : (s.extract p e).size ≤ 9223372036854775807 := by rw [size_sub _ _ _ he]; omega
  refine (Tryd.strings_TrimRight_one (s.extract p e) 39 (by decide) w hz).mono ?_
  rintro r w' ⟨rfl, rfl⟩
  obtain ⟨l1, _, _⟩ := lstN_spec s e
  have h2 : (⟨(Lib.trimRightB (s.extract p e).data.toList 39).toArray⟩ : ByteArray).size = wrdEnd s p e - p := by
    rw [size_list]
    unfold wrdEnd
    by_cases h : p < e
    · have := lstN_above s e p h (h39 h)
      rw [if_pos h, trimR_len s p e hp he (by omega)]
    · have : (s.extract p e).data.toList = [] := by
        apply List.eq_nil_of_length_eq_zero
        rw [Array.length_toList]
        have := size_sub s p e he
        show (s.extract p e).size = 0
        omega
      rw [if_neg h, this]
      simp [Lib.trimRightB]; omega
  have h3 : p ≤ wrdEnd s p e ∧ wrdEnd s p e ≤ e := by
    unfold wrdEnd
    by_cases h : p < e
    · have := lstN_above s e p h (h39 h)
      rw [if_pos h]; omega
    · rw [if_neg h]; omega
  exact ⟨⟨_, rfl, by rw [h2, show (p : Int) + ((wrdEnd s p e - p : Nat) : Int) = ((wrdEnd s p e : Nat) : Int) by omega]; exact IntWalk.i64_in _ (by omega), h2⟩, rfl⟩

theorem wordAt_any (s : ByteArray) (p : Nat) (w : World) (hp : p ≤ s.size) (hs : s.size ≤ 9223372036854775807) :
    Calls Tryd.prog 12 #[.string s, .int .i64 p] w fun r w' => r = .returned (.tuple #[.int .i64 (fstN s (endOf s p) (endOf s p - p) : Nat), .int .i64 (wrdEnd s (fstN s (endOf s p) (endOf s p - p)) (endOf s p) : Nat)]) ∧ w = w' := by
  obtain ⟨e1, e2, e3, e4⟩ := endOf_spec s p hp
  obtain ⟨f1, f2, f3, f4⟩ := fstN_spec s (endOf s p) (endOf s p - p) (by omega)
  have H0 := Lib.hid (fun w => runEnd_any s p w hp hs)
  have H1 := Lib.hid (fun w => trimLeft_sub s p (endOf s p) w e1 e2 hs)
  have H2 := Lib.hid (fun w => trimRight_sub s (fstN s (endOf s p) (endOf s p - p)) (endOf s p) w f2 e2 hs f4)
  have H3 := Lib.hid (And.intro e3 (And.intro e4 (And.intro f3 f4)))
  clear e3 e4 f3 f4
  generalize fstN s (endOf s p) (endOf s p - p) = A at *
  generalize endOf s p = E at *
  go_enter Tryd.func12, Tryd.ntmps12
  go_wp2_with (first | (go_at_call 14; refine (H0.out _).mono ?_; rintro e w' ⟨rfl, rfl⟩) | (go_at_call 17; (with_reducible refine (H1.out _).mono ?_); rintro e w' ⟨⟨t1, rfl, q1, -⟩, rfl⟩) | (go_at_call 18; (with_reducible refine (H2.out _).mono ?_); rintro e w' ⟨⟨t2, rfl, q2, -⟩, rfl⟩))
  exact bodyPost_ret (v := .tuple #[.int .i64 (A : Nat), .int .i64 (wrdEnd s A E : Nat)]) (by simp [results, Tryd.results12, go_sem]) rfl ⟨rfl, rfl⟩

theorem isWord_no (t : ByteArray) (w : World) (h : ¬ (1 ≤ t.size ∧ t.size ≤ 40)) (hs : t.size ≤ 9223372036854775807) : Calls Tryd.prog 13 #[.string t] w fun r w' => r = .returned (.bool false) ∧ w = w' := by
  have H := Lib.hid (show ¬ ((1 : Int) ≤ (t.size : Int) ∧ (t.size : Int) ≤ 40) by omega)
  clear h
  go_enter Tryd.func13, Tryd.ntmps13
  go_wp2_with (first | (go_at_call 29; (with_reducible refine (outside_yes (t.size : Int) 1 40 _ H.out).mono ?_); rintro e w' ⟨rfl, rfl⟩))
  go_ret
  exact ⟨rfl, rfl⟩

theorem isWord_yes (t : ByteArray) (w : World) (h : 1 ≤ t.size ∧ t.size ≤ 40) (h0 : letB (byteAt t 0) = true) (h1 : letB (byteAt t (t.size - 1)) = true) (ha : ∀ j, 0 ≤ j → j < t.size → inwB (byteAt t j) = true) :
    Calls Tryd.prog 13 #[.string t] w fun r w' => r = .returned (.bool true) ∧ w = w' := by
  have H := Lib.hid (show (1 : Int) ≤ (t.size : Int) ∧ (t.size : Int) ≤ 40 by omega)
  have p0 : 0 < t.size := by omega
  have p1 : t.size - 1 < t.size := by omega
  rw [← byteAt_get t 0 p0] at h0
  rw [← byteAt_get t _ p1] at h1
  have HE := Lib.hid (fun w => runEnd_any t 0 w (by omega) (by omega))
  rw [endOf_eq t 0 t.size (by omega) (Nat.le_refl _) ha (inw_end t)] at HE
  have hw : IntKind.i64.wrap ((t.size : Int) - 1) = ((t.size - 1 : Nat) : Int) := by rw [show (t.size : Int) - 1 = ((t.size - 1 : Nat) : Int) by omega]; exact IntWalk.i64_in _ (by omega)
  have hw2 : (t.size : Int) - 1 = ((t.size - 1 : Nat) : Int) := by omega
  obtain ⟨h2, h3⟩ := h
  clear ha
  go_enter Tryd.func13, Tryd.ntmps13
  go_wp2_with (first | (go_at_call 29; (with_reducible refine (outside_no (t.size : Int) 1 40 _ H.out).mono ?_); rintro e w' ⟨rfl, rfl⟩) | (go_at_call 30; refine (isLetter_any _ _).mono ?_; rintro e w' ⟨rfl, rfl⟩) | (go_at_call 14; refine (HE.out _).mono ?_; rintro e w' ⟨rfl, rfl⟩))
  go_ret
  exact ⟨rfl, rfl⟩

end Go.Proofs.YtmoplmjfnjgcaaaDoor
namespace Go.Proofs.YtmoplmjfnjgcaaaDoor
open Go.RowKit
set_option linter.unusedSimpArgs false
set_option linter.unusedVariables false

def tokV (s : ByteArray) (t : Nat × Nat × Bool) : List Value := [.string (s.extract t.1 t.2.1), .bool t.2.2]
def flatT (s : ByteArray) : List (Nat × Nat × Bool) → List Value
  | [] => []
  | t :: T => tokV s t ++ flatT s T
theorem flatT_app (s : ByteArray) (T U : List (Nat × Nat × Bool)) : flatT s (T ++ U) = flatT s T ++ flatT s U := by
  induction T with
  | nil => rfl
  | cons t T ih => rw [List.cons_append, flatT, flatT, ih, List.append_assoc]
theorem flatT_snoc (s : ByteArray) (T : List (Nat × Nat × Bool)) (a b : Nat) (x : Bool) : flatT s T ++ [.string (s.extract a b), .bool x] = flatT s (T ++ [(a, b, x)]) := by
  rw [flatT_app]; rfl
theorem flatT_get (s : ByteArray) (T : List (Nat × Nat × Bool)) (i : Nat) (hi : i < T.length) :
    (flatT s T)[i * 2]? = some (.string (s.extract (T.getD i (0, 0, false)).1 (T.getD i (0, 0, false)).2.1)) ∧ (flatT s T)[i * 2 + 1]? = some (.bool (T.getD i (0, 0, false)).2.2) := by
  induction T generalizing i with
  | nil => simp at hi
  | cons t T ih =>
    rw [flatT]
    cases i with
    | zero => simp [tokV]
    | succ i =>
      have := ih i (by simpa using hi)
      rw [show (i + 1) * 2 = i * 2 + 2 by omega, show i * 2 + 2 + 1 = (i * 2 + 1) + 2 by omega]
      rw [List.getElem?_append_right (by simp [tokV]), List.getElem?_append_right (by simp [tokV])]
      simpa [tokV] using this

def TokRow (w : World) (N : Nat) (s : ByteArray) (T : List (Nat × Nat × Bool)) (v : Value) : Prop := w.ownsRow N 26 2 v T.length (flatT s T)
theorem TokRow.nil (w : World) (N : Nat) (s : ByteArray) : TokRow w N s [] (.slice none 0 0) := World.ownsRow_nil _ _ _ _
theorem TokRow.later {w w' : World} {N : Nat} {s : ByteArray} {T : List (Nat × Nat × Bool)} {v : Value} (h : TokRow w N s T v) (hb : Below w.heap.size w w') : TokRow w' N s T v := below_owns h hb
theorem TokRow.alloc {w : World} {N : Nat} {s : ByteArray} {T : List (Nat × Nat × Bool)} {v : Value} (h : TokRow w N s T v) (o : Obj) : TokRow (w.alloc o) N s T v := World.ownsRow.alloc h o
theorem TokRow.shape {w : World} {N : Nat} {s : ByteArray} {T : List (Nat × Nat × Bool)} {v : Value} (h : TokRow w N s T v) : ∃ a c, v = .slice a T.length c ∧ (a = none → T.length = 0 ∧ c = 0) := by
  rcases h.2 with ⟨h0, h1⟩ | ⟨g, cap, cur, h0, _⟩
  · exact ⟨none, 0, by rw [h0, h1], fun _ => ⟨h1, rfl⟩⟩
  · exact ⟨some ⟨g, 0, none⟩, cap, h0, fun e => by cases e⟩

theorem info_token : (Tryd.prog.info? 26).map (fun i => (i.zero, i.size, i.bytes)) = some (some (.agg #[.string ⟨#[]⟩, .bool false]), 2, 24) := by kernel_rfl

theorem cells_two_new (w : World) (x y : Value) (t : TypeId) : ∀ j u, [x, y][j]? = some u → (w.alloc (.cells #[x, y] t)).cell? ((⟨w.heap.size, 0, none⟩ : Addr).add j) = some u := by
  intro j u hu
  match j, hu with
  | 0, hu =>
    simp at hu; subst hu
    rw [show (⟨w.heap.size, 0, none⟩ : Addr).add 0 = ⟨w.heap.size, 0, none⟩ from rfl, World.cell?_alloc_at _ _ _ _ rfl]; rfl
  | 1, hu =>
    simp at hu; subst hu
    rw [show (⟨w.heap.size, 0, none⟩ : Addr).add 1 = ⟨w.heap.size, 1, none⟩ by simp [Addr.add], World.cell?_alloc_at _ _ _ _ rfl]; rfl
  | j + 2, hu => simp at hu

end Go.Proofs.YtmoplmjfnjgcaaaDoor
