/-
  IsName and the reference's NameOf say the same of every text.
-/
import Derived.Test.YtejhmobpepllcaaDoorBase
namespace Go.Proofs.YtejhmobpepllcaaDoor
open Go.RowKit
set_option linter.unusedSimpArgs false
set_option linter.unusedVariables false

def smB (c : Int) : Bool := decide (97 ≤ c ∧ c ≤ 122)
def dgB (c : Int) : Bool := decide (48 ≤ c ∧ c ≤ 57)

theorem isSmall_any (c : Int) (w : World) : Calls Tryd.prog 70 #[.int .u8 c] w fun e w' => e = .returned (.bool (smB c)) ∧ w = w' := by
  by_cases h1 : 97 ≤ c
  · by_cases h2 : c ≤ 122
    · have H := Lib.hid (show smB c = true from decide_eq_true ⟨h1, h2⟩)
      go_enter Tryd.func70, Tryd.ntmps70
      go_wp2
      go_ret
      exact ⟨ret_bool H.out.symm, rfl⟩
    · have H := Lib.hid (show smB c = false from decide_eq_false (fun k => h2 k.2))
      go_enter Tryd.func70, Tryd.ntmps70
      go_wp2
      go_ret
      exact ⟨ret_bool H.out.symm, rfl⟩
  · have H := Lib.hid (show smB c = false from decide_eq_false (fun k => h1 k.1))
    go_enter Tryd.func70, Tryd.ntmps70
    go_wp2
    go_ret
    exact ⟨ret_bool H.out.symm, rfl⟩

theorem isDigit_any (c : Int) (w : World) : Calls Tryd.prog 71 #[.int .u8 c] w fun e w' => e = .returned (.bool (dgB c)) ∧ w = w' := by
  by_cases h1 : 48 ≤ c
  · by_cases h2 : c ≤ 57
    · have H := Lib.hid (show dgB c = true from decide_eq_true ⟨h1, h2⟩)
      go_enter Tryd.func71, Tryd.ntmps71
      go_wp2
      go_ret
      exact ⟨ret_bool H.out.symm, rfl⟩
    · have H := Lib.hid (show dgB c = false from decide_eq_false (fun k => h2 k.2))
      go_enter Tryd.func71, Tryd.ntmps71
      go_wp2
      go_ret
      exact ⟨ret_bool H.out.symm, rfl⟩
  · have H := Lib.hid (show dgB c = false from decide_eq_false (fun k => h1 k.1))
    go_enter Tryd.func71, Tryd.ntmps71
    go_wp2
    go_ret
    exact ⟨ret_bool H.out.symm, rfl⟩

/-- The byte at a place, as a number. -/
def byteAt (s : ByteArray) (k : Nat) : Int := ((s.data.toList.getD k 0).toNat : Int)
theorem byteAt_get (s : ByteArray) (k : Nat) (h : k < s.size) : (s[k].toNat : Int) = byteAt s k := by
  unfold byteAt
  rw [List.getD_eq_getElem?_getD, List.getElem?_eq_getElem (by simpa using h)]
  rfl

def goodB (s : ByteArray) (k : Nat) : Bool := smB (byteAt s k) || (decide (k ≠ 0) && (dgB (byteAt s k) || decide (byteAt s k = 45)))
def NameP (s : ByteArray) : Prop := (1 ≤ s.size ∧ s.size ≤ 40) ∧ ∀ k, k < s.size → goodB s k = true

/-- It returns a bool that says whether P. -/
def SaysIf (P : Prop) (w : World) (e : Ending) (w' : World) : Prop := ∃ q, e = .returned (.bool q) ∧ (q = true ↔ P) ∧ w = w'
theorem says_no {P : Prop} {w : World} (h : ¬ P) : SaysIf P w (.returned (.bool false)) w := ⟨false, rfl, by simp [h], rfl⟩
theorem says_yes {P : Prop} {w : World} (h : P) : SaysIf P w (.returned (.bool true)) w := ⟨true, rfl, by simp [h], rfl⟩

theorem good_next {s : ByteArray} {k : Nat} (h : Hid (∀ j, j < k → goodB s j = true)) (hk : Hid (goodB s k = true)) : Hid (∀ j, j < k + 1 → goodB s j = true) :=
  Lib.hid fun j hj => by
    by_cases e : j = k
    · rw [e]; exact hk.out
    · exact h.out j (by omega)

set_option maxHeartbeats 400000 in
theorem isName_any (s : ByteArray) (w : World) (hs : s.size ≤ 9223372036854775807) : Calls Tryd.prog 37 #[.string s] w (SaysIf (NameP s) w) := by
  by_cases h1 : 1 ≤ s.size
  · by_cases h2 : s.size ≤ 40
    · have d1 : decide ((s.size : Int) < 1) = false := by simp; omega
      have d2 : decide ((40 : Int) < (s.size : Int)) = false := by simp; omega
      have hlt0 : 0 < s.size := by omega
      have E0 := Lib.hid (byteAt_get s 0 hlt0)
      by_cases hb : smB (s[0].toNat : Int) = true
      · have HB := Lib.hid (show smB (byteAt s 0) = true by rw [← E0.out]; exact hb)
        have H1 := Lib.hid h1
        have H2 := Lib.hid h2
        clear h1 h2
        go_enter Tryd.func37, Tryd.ntmps37
        go_wp2_with (first | (go_at_call 70; refine (isSmall_any _ _).mono ?_; rintro e w' ⟨rfl, rfl⟩) | (go_at_call 71; refine (isDigit_any _ _).mono ?_; rintro e w' ⟨rfl, rfl⟩))
        clear hb
        go_loop [21] (fun i => ∃ k : Nat, k ≤ s.size ∧ i = .int .i64 k ∧ Hid (∀ j, j < k → goodB s j = true)) (fun i => s.size - (intOf i).toNat)
        case atStart => exact ⟨0, Nat.zero_le _, rfl, fun j hj => by omega⟩
        case round =>
          obtain ⟨k, hk, rfl, hG⟩ := hrel
          by_cases hlt : k < s.size
          · have E := Lib.hid (byteAt_get s k hlt)
            by_cases a1 : smB (s[k].toNat : Int) = true
            · have hg := Lib.hid (show goodB s k = true by unfold goodB; rw [← E.out, a1]; rfl)
              go_wp2_with (first | (go_at_call 70; refine (isSmall_any _ _).mono ?_; rintro e w' ⟨rfl, rfl⟩) | (go_at_call 71; refine (isDigit_any _ _).mono ?_; rintro e w' ⟨rfl, rfl⟩))
              go_round
              case rel => exact ⟨k + 1, by omega, by go_num, good_next hG hg⟩
              case measure => simp [intOf]; omega
            · have a1' : smB (s[k].toNat : Int) = false := by simpa using a1
              have K0 := Lib.hid (show k ≠ 0 from fun e => a1 (by subst e; rw [E.out]; exact HB.out))
              clear a1
              by_cases a2 : dgB (s[k].toNat : Int) = true
              · have hg := Lib.hid (show goodB s k = true by unfold goodB; rw [← E.out, a1', a2]; simp [K0.out])
                go_wp2_with (first | (go_at_call 70; refine (isSmall_any _ _).mono ?_; rintro e w' ⟨rfl, rfl⟩) | (go_at_call 71; refine (isDigit_any _ _).mono ?_; rintro e w' ⟨rfl, rfl⟩))
                go_round
                case rel => exact ⟨k + 1, by omega, by go_num, good_next hG hg⟩
                case measure => simp [intOf]; omega
              · have a2' : dgB (s[k].toNat : Int) = false := by simpa using a2
                clear a2
                by_cases a3 : (s[k].toNat : Int) = 45
                · have a3' : ((s[k].toNat : Int) != 45) = false := by simpa using a3
                  have hg := Lib.hid (show goodB s k = true by unfold goodB; rw [← E.out, a1', a2']; simp [K0.out]; omega)
                  clear a3
                  go_wp2_with (first | (go_at_call 70; refine (isSmall_any _ _).mono ?_; rintro e w' ⟨rfl, rfl⟩) | (go_at_call 71; refine (isDigit_any _ _).mono ?_; rintro e w' ⟨rfl, rfl⟩))
                  go_round
                  case rel => exact ⟨k + 1, by omega, by go_num, good_next hG hg⟩
                  case measure => simp [intOf]; omega
                · have a3' : ((s[k].toNat : Int) != 45) = true := by simpa using a3
                  have hg := Lib.hid (show goodB s k = false by unfold goodB; rw [← E.out, a1', a2']; simp; omega)
                  clear a3
                  go_wp2_with (first | (go_at_call 70; refine (isSmall_any _ _).mono ?_; rintro e w' ⟨rfl, rfl⟩) | (go_at_call 71; refine (isDigit_any _ _).mono ?_; rintro e w' ⟨rfl, rfl⟩))
                  go_ret
                  exact says_no (fun hP => by have := hP.2 k hlt; rw [hg.out] at this; cases this)
          · go_wp2_with (first | (go_at_call 70; refine (isSmall_any _ _).mono ?_; rintro e w' ⟨rfl, rfl⟩) | (go_at_call 71; refine (isDigit_any _ _).mono ?_; rintro e w' ⟨rfl, rfl⟩))
            go_ret
            exact says_yes ⟨⟨H1.out, H2.out⟩, fun j hj => hG.out j (by omega)⟩
      · have hb' : smB (s[0].toNat : Int) = false := by simpa using hb
        have HB := Lib.hid (show goodB s 0 = false by unfold goodB; rw [← E0.out, hb']; rfl)
        clear hb
        go_enter Tryd.func37, Tryd.ntmps37
        go_wp2_with (first | (go_at_call 70; refine (isSmall_any _ _).mono ?_; rintro e w' ⟨rfl, rfl⟩) | (go_at_call 71; refine (isDigit_any _ _).mono ?_; rintro e w' ⟨rfl, rfl⟩))
        go_ret
        exact says_no (fun hP => by have := hP.2 0 hlt0; rw [HB.out] at this; cases this)
    · go_enter Tryd.func37, Tryd.ntmps37
      go_wp2_with (first | (go_at_call 70; refine (isSmall_any _ _).mono ?_; rintro e w' ⟨rfl, rfl⟩) | (go_at_call 71; refine (isDigit_any _ _).mono ?_; rintro e w' ⟨rfl, rfl⟩))
      go_ret
      exact says_no (fun hP => by have := hP.1; omega)
  · go_enter Tryd.func37, Tryd.ntmps37
    go_wp2_with (first | (go_at_call 70; refine (isSmall_any _ _).mono ?_; rintro e w' ⟨rfl, rfl⟩) | (go_at_call 71; refine (isDigit_any _ _).mono ?_; rintro e w' ⟨rfl, rfl⟩))
    go_ret
    exact says_no (fun hP => by have := hP.1; omega)

end Go.Proofs.YtejhmobpepllcaaDoor
