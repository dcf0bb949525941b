/-
  Contracts of small functions of packages page and bedref2: what each returns, for every argument. No conditions but those named.
-/
import Derived.Test.YthcmolhjncdnaaaDoorRows
import Derived.WalkKit
import Derived.WalkSpells
import Derived.WalkLawsBesides
import Derived.Lib.Hide
namespace Go.Proofs.YthcmolhjncdnaaaDoor
open Go.RowKit
set_option linter.unusedSimpArgs false
set_option linter.unusedVariables false

theorem ret_int {k : IntKind} {a b : Int} (h : a = b) : Ending.returned (.int k a) = .returned (.int k b) := by rw [h]
theorem ret_bool {a b : Bool} (h : a = b) : Ending.returned (.bool a) = .returned (.bool b) := by rw [h]

/-- 'e, if c, else no error'. -/
def whenI (c : Bool) (e : Int) : Int := if c then e else 0

theorem when_any (c : Bool) (e : Int) (w : World) : Calls Tryd.prog 6 #[.bool c, .int .i64 e] w fun r w' => r = .returned (.int .i64 (whenI c e)) ∧ w = w' := by
  cases c
  · go_enter Tryd.func6, Tryd.ntmps6
    go_wp2
    go_ret
    exact ⟨rfl, rfl⟩
  · go_enter Tryd.func6, Tryd.ntmps6
    go_wp2
    go_ret
    exact ⟨rfl, rfl⟩

theorem in_any (n a b : Int) (w : World) : Calls Tryd.prog 7 #[.int .i64 n, .int .i64 a, .int .i64 b] w fun r w' => r = .returned (.bool (decide (a ≤ n ∧ n ≤ b))) ∧ w = w' := by
  by_cases h : a ≤ n
  · go_enter Tryd.func7, Tryd.ntmps7
    go_wp2
    go_ret
    exact ⟨ret_bool (by simp [h]), rfl⟩
  · go_enter Tryd.func7, Tryd.ntmps7
    go_wp2
    go_ret
    exact ⟨ret_bool (by simp; omega), rfl⟩

theorem in_yes (n a b : Int) (w : World) (h : a ≤ n ∧ n ≤ b) : Calls Tryd.prog 7 #[.int .i64 n, .int .i64 a, .int .i64 b] w fun r w' => r = .returned (.bool true) ∧ w = w' :=
  (in_any n a b w).mono fun _ _ ⟨h1, h2⟩ => ⟨by rw [h1, decide_eq_true h], h2⟩
theorem in_no (n a b : Int) (w : World) (h : ¬ (a ≤ n ∧ n ≤ b)) : Calls Tryd.prog 7 #[.int .i64 n, .int .i64 a, .int .i64 b] w fun r w' => r = .returned (.bool false) ∧ w = w' :=
  (in_any n a b w).mono fun _ _ ⟨h1, h2⟩ => ⟨by rw [h1, decide_eq_false h], h2⟩

theorem outside_no (n a b : Int) (w : World) (h : a ≤ n ∧ n ≤ b) : Calls Tryd.prog 20 #[.int .i64 n, .int .i64 a, .int .i64 b] w fun r w' => r = .returned (.bool false) ∧ w = w' := by
  obtain ⟨h1, h2⟩ := h
  have h3 : ¬ n < a := by omega
  have h4 : ¬ b < n := by omega
  go_enter Tryd.func20, Tryd.ntmps20
  go_wp2
  go_ret
  exact ⟨rfl, rfl⟩
theorem outside_yes (n a b : Int) (w : World) (h : ¬ (a ≤ n ∧ n ≤ b)) : Calls Tryd.prog 20 #[.int .i64 n, .int .i64 a, .int .i64 b] w fun r w' => r = .returned (.bool true) ∧ w = w' := by
  by_cases h1 : n < a
  · clear h
    go_enter Tryd.func20, Tryd.ntmps20
    go_wp2
    go_ret
    exact ⟨rfl, rfl⟩
  · have h4 : b < n := by omega
    clear h
    go_enter Tryd.func20, Tryd.ntmps20
    go_wp2
    go_ret
    exact ⟨rfl, rfl⟩
theorem outsideS_no (n a b : Int) (w : World) (h : a ≤ n ∧ n ≤ b) : Calls Tryd.prog 20 #[.int .i64 n, .int .i64 a, .int .i64 b] w fun r w' => r = .returned (.bool false) ∧ w = w' := outside_no n a b w h
theorem outsideS_yes (n a b : Int) (w : World) (h : ¬ (a ≤ n ∧ n ≤ b)) : Calls Tryd.prog 20 #[.int .i64 n, .int .i64 a, .int .i64 b] w fun r w' => r = .returned (.bool true) ∧ w = w' := outside_yes n a b w h

/-- The error of a size. -/
def sizeErr (w h : Int) : Int := if w < 1 ∨ h < 1 ∨ 4000 < w ∨ 4000 < h then 3 else if 1048576 < w * h then 4 else 0

theorem mul_small {a b : Int} (ha : 1 ≤ a) (hb : 1 ≤ b) (ha' : a ≤ 4000) (hb' : b ≤ 4000) : 0 ≤ a * b ∧ a * b ≤ 16000000 := by
  refine ⟨Int.mul_nonneg (by omega) (by omega), ?_⟩
  have := Int.mul_le_mul ha' hb' (by omega) (by omega : (0:Int) ≤ 4000)
  omega

set_option maxRecDepth 100000 in
theorem checkSize_any (a b : Int) (w : World) : Calls Tryd.prog 21 #[.int .i64 a, .int .i64 b] w fun r w' => r = .returned (.int .i64 (sizeErr a b)) ∧ w = w' := by
  by_cases h1 : 1 ≤ a ∧ a ≤ 4000
  · have H1 := Lib.hid h1
    by_cases h2 : 1 ≤ b ∧ b ≤ 4000
    · have H2 := Lib.hid h2
      have hm := mul_small (by omega : 1 ≤ a) (by omega : 1 ≤ b) (by omega) (by omega)
      have hw : wrap64 (a * b) = a * b := by unfold wrap64; omega
      by_cases h5 : 1048576 < a * b
      · have HS := Lib.hid (show sizeErr a b = 4 by unfold sizeErr; rw [if_neg (by omega), if_pos h5])
        clear h1 h2
        go_enter Tryd.func21, Tryd.ntmps21
        go_wp2_with (first | (go_at_call 20; (with_reducible refine (outside_no a 1 4000 _ H1.out).mono ?_); rintro e w' ⟨rfl, rfl⟩) | (go_at_call 20; (with_reducible refine (outside_no b 1 4000 _ H2.out).mono ?_); rintro e w' ⟨rfl, rfl⟩))
        go_ret
        exact ⟨ret_int HS.out.symm, rfl⟩
      · have HS := Lib.hid (show sizeErr a b = 0 by unfold sizeErr; rw [if_neg (by omega), if_neg h5])
        clear h1 h2
        go_enter Tryd.func21, Tryd.ntmps21
        go_wp2_with (first | (go_at_call 20; (with_reducible refine (outside_no a 1 4000 _ H1.out).mono ?_); rintro e w' ⟨rfl, rfl⟩) | (go_at_call 20; (with_reducible refine (outside_no b 1 4000 _ H2.out).mono ?_); rintro e w' ⟨rfl, rfl⟩))
        go_ret
        exact ⟨ret_int HS.out.symm, rfl⟩
    · have H2 := Lib.hid h2
      have HS := Lib.hid (show sizeErr a b = 3 by unfold sizeErr; rw [if_pos (by omega)])
      clear h1 h2
      go_enter Tryd.func21, Tryd.ntmps21
      go_wp2_with (first | (go_at_call 20; (with_reducible refine (outside_no a 1 4000 _ H1.out).mono ?_); rintro e w' ⟨rfl, rfl⟩) | (go_at_call 20; (with_reducible refine (outside_yes b 1 4000 _ H2.out).mono ?_); rintro e w' ⟨rfl, rfl⟩))
      go_ret
      exact ⟨ret_int HS.out.symm, rfl⟩
  · have H1 := Lib.hid h1
    have HS := Lib.hid (show sizeErr a b = 3 by unfold sizeErr; rw [if_pos (by omega)])
    clear h1
    go_enter Tryd.func21, Tryd.ntmps21
    go_wp2_with (first | (go_at_call 20; (with_reducible refine (outside_yes a 1 4000 _ H1.out).mono ?_); rintro e w' ⟨rfl, rfl⟩))
    go_ret
    exact ⟨ret_int HS.out.symm, rfl⟩


/-- The first that is not 0. -/
def firstOf : List Int → Int
  | [] => 0
  | e :: r => if e = 0 then firstOf r else e

theorem firstOf_drop (xs : List Int) (k : Nat) (hk : k < xs.length) : firstOf (xs.drop k) = if xs.getD k 0 = 0 then firstOf (xs.drop (k + 1)) else xs.getD k 0 := by
  rw [List.drop_eq_getElem_cons hk]
  simp [firstOf, List.getD_eq_getElem?_getD, List.getElem?_eq_getElem hk]

theorem first_any (b : Nat) (xs : List Int) (w : World) (hn : xs.length ≤ 1000) (hc : ∀ j, j < xs.length → w.cell? ⟨b, j, none⟩ = some (.int .i64 (xs.getD j 0))) :
    Calls Tryd.prog 5 #[.slice (some ⟨b, 0, none⟩) xs.length xs.length] w fun r w' => r = .returned (.int .i64 (firstOf xs)) ∧ w = w' := by
  go_enter Tryd.func5, Tryd.ntmps5
  go_wp2
  go_loop [7] (fun i => ∃ k : Nat, k ≤ xs.length ∧ i = .int .i64 k ∧ firstOf (xs.drop k) = firstOf xs) (fun i => xs.length - (intOf i).toNat)
  case atStart => exact ⟨0, Nat.zero_le _, rfl, rfl⟩
  case round =>
    obtain ⟨k, hk, rfl, hf⟩ := hrel
    by_cases hlt : k < xs.length
    · have hcell := hc k hlt
      have hd := firstOf_drop xs k hlt
      generalize xs.getD k 0 = x at hcell hd
      have HD := Lib.hid hd
      have HF := Lib.hid hf
      clear hf hc hd
      by_cases hz : x = 0
      · subst hz
        go_wp2
        go_round
        case rel => exact ⟨k + 1, by omega, by go_num, by rw [← HF.out, HD.out, if_pos rfl]⟩
        case measure => simp [intOf]; omega
      · have HZ := Lib.hid hz
        have hz' : (x != 0) = true := by simpa using hz
        clear hz
        go_wp2
        go_ret
        exact ⟨ret_int (by rw [← HF.out, HD.out, if_neg HZ.out]), rfl⟩
    · have HF := Lib.hid hf
      clear hf
      go_wp2
      go_ret
      exact ⟨ret_int (by rw [← HF.out, List.drop_eq_nil_of_le (by omega)]; rfl), rfl⟩

end Go.Proofs.YthcmolhjncdnaaaDoor
