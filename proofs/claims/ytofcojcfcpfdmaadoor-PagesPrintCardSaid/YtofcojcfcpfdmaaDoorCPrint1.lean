/-
  What pagesPrint_holds leans on: contracts of the functions that it calls.
-/
import Derived.Test.YtofcojcfcpfdmaaDoorRows
import Derived.WalkKit
import Derived.WalkSpells
import Derived.WalkLawsBesides
import Derived.Lib.Hide
import Derived.Deep.RegionHeld3
import Derived.Shelf.Abstract
import Derived.Shelf.Strings.Builder1
import Derived.Shelf.Strings.Search1
import Derived.Shelf.Strings.Search2
import Derived.Shelf.Strings.SlTrimAscii
import Derived.Test.YtofcojcfcpfdmaaDoorProg
import Derived.Lib.IndexLaws
import Derived.Lib.IndexBytes
import Derived.Lib.SlTrimSet
import Derived.Deep.QuietTactic
import Derived.BigQuiet
namespace Go.Proofs.YtofcojcfcpfdmaaDoor
open Go.RowKit
set_option linter.unusedSimpArgs false
set_option linter.unusedVariables false

theorem ret_int {k : IntKind} {a b : Int} (h : a = b) : Ending.returned (.int k a) = .returned (.int k b) := by rw [h]
theorem ret_bool {a b : Bool} (h : a = b) : Ending.returned (.bool a) = .returned (.bool b) := by rw [h]

/-- 'e, if c, else no error'. -/
def whenI (c : Bool) (e : Int) : Int := if c then e else 0

theorem when_any (c : Bool) (e : Int) (w : World) : Calls Tryd.prog 8 #[.bool c, .int .i64 e] w fun r w' => r = .returned (.int .i64 (whenI c e)) ∧ w = w' := by
  cases c
  · go_enter Tryd.func8, Tryd.ntmps8
    go_wp2
    go_ret
    exact ⟨rfl, rfl⟩
  · go_enter Tryd.func8, Tryd.ntmps8
    go_wp2
    go_ret
    exact ⟨rfl, rfl⟩

theorem in_any (n a b : Int) (w : World) : Calls Tryd.prog 58 #[.int .i64 n, .int .i64 a, .int .i64 b] w fun r w' => r = .returned (.bool (decide (a ≤ n ∧ n ≤ b))) ∧ w = w' := by
  by_cases h : a ≤ n
  · go_enter Tryd.func58, Tryd.ntmps58
    go_wp2
    go_ret
    exact ⟨ret_bool (by simp [h]), rfl⟩
  · go_enter Tryd.func58, Tryd.ntmps58
    go_wp2
    go_ret
    exact ⟨ret_bool (by simp; omega), rfl⟩

theorem in_yes (n a b : Int) (w : World) (h : a ≤ n ∧ n ≤ b) : Calls Tryd.prog 58 #[.int .i64 n, .int .i64 a, .int .i64 b] w fun r w' => r = .returned (.bool true) ∧ w = w' :=
  (in_any n a b w).mono fun _ _ ⟨h1, h2⟩ => ⟨by rw [h1, decide_eq_true h], h2⟩
theorem outside_no (n a b : Int) (w : World) (h : a ≤ n ∧ n ≤ b) : Calls Tryd.prog 43 #[.int .i64 n, .int .i64 a, .int .i64 b] w fun r w' => r = .returned (.bool false) ∧ w = w' := by
  obtain ⟨h1, h2⟩ := h
  have h3 : ¬ n < a := by omega
  have h4 : ¬ b < n := by omega
  go_enter Tryd.func43, Tryd.ntmps43
  go_wp2
  go_ret
  exact ⟨rfl, rfl⟩
theorem outside_yes (n a b : Int) (w : World) (h : ¬ (a ≤ n ∧ n ≤ b)) : Calls Tryd.prog 43 #[.int .i64 n, .int .i64 a, .int .i64 b] w fun r w' => r = .returned (.bool true) ∧ w = w' := by
  by_cases h1 : n < a
  · clear h
    go_enter Tryd.func43, Tryd.ntmps43
    go_wp2
    go_ret
    exact ⟨rfl, rfl⟩
  · have h4 : b < n := by omega
    clear h
    go_enter Tryd.func43, Tryd.ntmps43
    go_wp2
    go_ret
    exact ⟨rfl, rfl⟩
/-- The error of a size. -/
def sizeErr (w h : Int) : Int := if w < 1 ∨ h < 1 ∨ 4000 < w ∨ 4000 < h then 3 else if 1048576 < w * h then 4 else 0

theorem mul_small {a b : Int} (ha : 1 ≤ a) (hb : 1 ≤ b) (ha' : a ≤ 4000) (hb' : b ≤ 4000) : 0 ≤ a * b ∧ a * b ≤ 16000000 := by
  refine ⟨Int.mul_nonneg (by omega) (by omega), ?_⟩
  have := Int.mul_le_mul ha' hb' (by omega) (by omega : (0:Int) ≤ 4000)
  omega

set_option maxRecDepth 100000 in
theorem checkSize_any (a b : Int) (w : World) : Calls Tryd.prog 59 #[.int .i64 a, .int .i64 b] w fun r w' => r = .returned (.int .i64 (sizeErr a b)) ∧ w = w' := by
  by_cases h1 : 1 ≤ a ∧ a ≤ 4000
  · have H1 := Lib.hid h1
    by_cases h2 : 1 ≤ b ∧ b ≤ 4000
    · have H2 := Lib.hid h2
      have hm := mul_small (by omega : 1 ≤ a) (by omega : 1 ≤ b) (by omega) (by omega)
      have hw : wrap64 (a * b) = a * b := by unfold wrap64; omega
      by_cases h5 : 1048576 < a * b
      · have HS := Lib.hid (show sizeErr a b = 4 by unfold sizeErr; rw [if_neg (by omega), if_pos h5])
        clear h1 h2
        go_enter Tryd.func59, Tryd.ntmps59
        go_wp2_with (first | (go_at_call 43; (with_reducible refine (outside_no a 1 4000 _ H1.out).mono ?_); rintro e w' ⟨rfl, rfl⟩) | (go_at_call 43; (with_reducible refine (outside_no b 1 4000 _ H2.out).mono ?_); rintro e w' ⟨rfl, rfl⟩))
        go_ret
        exact ⟨ret_int HS.out.symm, rfl⟩
      · have HS := Lib.hid (show sizeErr a b = 0 by unfold sizeErr; rw [if_neg (by omega), if_neg h5])
        clear h1 h2
        go_enter Tryd.func59, Tryd.ntmps59
        go_wp2_with (first | (go_at_call 43; (with_reducible refine (outside_no a 1 4000 _ H1.out).mono ?_); rintro e w' ⟨rfl, rfl⟩) | (go_at_call 43; (with_reducible refine (outside_no b 1 4000 _ H2.out).mono ?_); rintro e w' ⟨rfl, rfl⟩))
        go_ret
        exact ⟨ret_int HS.out.symm, rfl⟩
    · have H2 := Lib.hid h2
      have HS := Lib.hid (show sizeErr a b = 3 by unfold sizeErr; rw [if_pos (by omega)])
      clear h1 h2
      go_enter Tryd.func59, Tryd.ntmps59
      go_wp2_with (first | (go_at_call 43; (with_reducible refine (outside_no a 1 4000 _ H1.out).mono ?_); rintro e w' ⟨rfl, rfl⟩) | (go_at_call 43; (with_reducible refine (outside_yes b 1 4000 _ H2.out).mono ?_); rintro e w' ⟨rfl, rfl⟩))
      go_ret
      exact ⟨ret_int HS.out.symm, rfl⟩
  · have H1 := Lib.hid h1
    have HS := Lib.hid (show sizeErr a b = 3 by unfold sizeErr; rw [if_pos (by omega)])
    clear h1
    go_enter Tryd.func59, Tryd.ntmps59
    go_wp2_with (first | (go_at_call 43; (with_reducible refine (outside_yes a 1 4000 _ H1.out).mono ?_); rintro e w' ⟨rfl, rfl⟩))
    go_ret
    exact ⟨ret_int HS.out.symm, rfl⟩

/-- The first that is not 0. -/
def firstOf : List Int → Int
  | [] => 0
  | e :: r => if e = 0 then firstOf r else e

theorem firstOf_drop (xs : List Int) (k : Nat) (hk : k < xs.length) : firstOf (xs.drop k) = if xs.getD k 0 = 0 then firstOf (xs.drop (k + 1)) else xs.getD k 0 := by
  rw [List.drop_eq_getElem_cons hk]
  simp [firstOf, List.getD_eq_getElem?_getD, List.getElem?_eq_getElem hk]

theorem first_any (b : Nat) (xs : List Int) (w : World) (hn : xs.length ≤ 1000) (hc : ∀ j, j < xs.length → w.cell? ⟨b, j, none⟩ = some (.int .i64 (xs.getD j 0))) :
    Calls Tryd.prog 6 #[.slice (some ⟨b, 0, none⟩) xs.length xs.length] w fun r w' => r = .returned (.int .i64 (firstOf xs)) ∧ w = w' := by
  go_enter Tryd.func6, Tryd.ntmps6
  go_wp2
  go_loop [7] (fun i => ∃ k : Nat, k ≤ xs.length ∧ i = .int .i64 k ∧ firstOf (xs.drop k) = firstOf xs) (fun i => xs.length - (intOf i).toNat)
  case atStart => exact ⟨0, Nat.zero_le _, rfl, rfl⟩
  case round =>
    obtain ⟨k, hk, rfl, hf⟩ := hrel
    by_cases hlt : k < xs.length
    · have hcell := hc k hlt
      have hd := firstOf_drop xs k hlt
      generalize xs.getD k 0 = x at hcell hd
      have HD := Lib.hid hd
      have HF := Lib.hid hf
      clear hf hc hd
      by_cases hz : x = 0
      · subst hz
        go_wp2
        go_round
        case rel => exact ⟨k + 1, by omega, by go_num, by rw [← HF.out, HD.out, if_pos rfl]⟩
        case measure => simp [intOf]; omega
      · have HZ := Lib.hid hz
        have hz' : (x != 0) = true := by simpa using hz
        clear hz
        go_wp2
        go_ret
        exact ⟨ret_int (by rw [← HF.out, HD.out, if_neg HZ.out]), rfl⟩
    · have HF := Lib.hid hf
      clear hf
      go_wp2
      go_ret
      exact ⟨ret_int (by rw [← HF.out, List.drop_eq_nil_of_le (by omega)]; rfl), rfl⟩

end Go.Proofs.YtofcojcfcpfdmaaDoor
namespace Go.Proofs.YtofcojcfcpfdmaaDoor
open Go.RowKit
set_option linter.unusedSimpArgs false
set_option linter.unusedVariables false

/-- The first of two errors. -/
def orI (x y : Int) : Int := if x = 0 then y else x

theorem first2_any (b : Nat) (x y : Int) (w : World) (h0 : w.cell? ⟨b, 0, none⟩ = some (.int .i64 x)) (h1 : w.cell? ⟨b, 1, none⟩ = some (.int .i64 y)) :
    Calls Tryd.prog 6 #[.slice (some ⟨b, 0, none⟩) 2 2] w fun r w' => r = .returned (.int .i64 (orI x y)) ∧ w = w' := by
  refine (first_any b [x, y] w (by simp) ?_).mono ?_
  · intro j hj
    match j, hj with
    | 0, _ => exact h0
    | 1, _ => exact h1
  · rintro e w' ⟨rfl, rfl⟩
    refine ⟨ret_int ?_, rfl⟩
    simp only [firstOf, orI]
    by_cases hx : x = 0
    · by_cases hy : y = 0 <;> simp [hx, hy]
    · simp [hx]

theorem first2_new (x y : Int) (w : World) :
    Calls Tryd.prog 6 #[.slice (some ⟨w.heap.size, 0, none⟩) 2 2] (w.alloc (.cells #[.int .i64 x, .int .i64 y] 25)) fun r w' => r = .returned (.int .i64 (orI x y)) ∧ w.alloc (.cells #[.int .i64 x, .int .i64 y] 25) = w' :=
  first2_any _ x y _ (by rw [World.cell?_alloc_at _ _ _ _ rfl]; rfl) (by rw [World.cell?_alloc_at _ _ _ _ rfl]; rfl)

theorem new_below (w : World) (o : Obj) : Below w.heap.size w (w.alloc o) := (Below.refl _ _).alloc (Nat.le_refl _) _
theorem below_step {w a b : World} (h : Below w.heap.size w a) (k : Below a.heap.size a b) : Below w.heap.size w b := h.trans (k.mono h.size)
theorem below_alloc {w a : World} (h : Below w.heap.size w a) (o : Obj) : Below w.heap.size w (a.alloc o) := h.alloc h.size o

theorem sizeError_any (a b : Int) (w : World) : Calls Tryd.prog 25 #[.int .i64 a, .int .i64 b] w fun r w' => r = .returned (.int .i64 (sizeErr a b)) ∧ Below w.heap.size w w' := by
  by_cases h1 : 1 ≤ a ∧ a ≤ 4000
  · obtain ⟨h1, h2⟩ := h1
    by_cases h3 : 1 ≤ b ∧ b ≤ 4000
    · obtain ⟨h3, h4⟩ := h3
      have hm := mul_small h1 h3 h2 h4
      have hw : wrap64 (a * b) = a * b := by unfold wrap64; omega
      by_cases h5 : 1048576 < a * b
      · have HS := Lib.hid (show sizeErr a b = 4 by unfold sizeErr; rw [if_neg (by omega), if_pos h5])
        go_enter Tryd.func25, Tryd.ntmps25
        go_wp2_with (first | (go_at_call 58; refine (in_any _ _ _ _).mono ?_; rintro e w' ⟨rfl, rfl⟩) | (go_at_call 8; refine (when_any _ _ _).mono ?_; rintro e w' ⟨rfl, rfl⟩) | (go_at_call 6; refine (first2_new _ _ _).mono ?_; rintro e w' ⟨rfl, rfl⟩))
        go_ret
        exact ⟨ret_int (by rw [HS.out]; rfl), new_below _ _⟩
      · have HS := Lib.hid (show sizeErr a b = 0 by unfold sizeErr; rw [if_neg (by omega), if_neg (by omega)])
        go_enter Tryd.func25, Tryd.ntmps25
        go_wp2_with (first | (go_at_call 58; refine (in_any _ _ _ _).mono ?_; rintro e w' ⟨rfl, rfl⟩) | (go_at_call 8; refine (when_any _ _ _).mono ?_; rintro e w' ⟨rfl, rfl⟩) | (go_at_call 6; refine (first2_new _ _ _).mono ?_; rintro e w' ⟨rfl, rfl⟩))
        go_ret
        exact ⟨ret_int (by rw [HS.out, show decide (1048576 < a * b) = false from decide_eq_false (by omega)]; rfl), new_below _ _⟩
    · have h1d : decide (1 ≤ a ∧ a ≤ 4000) = true := by simp; omega
      have h3d : decide (1 ≤ b ∧ b ≤ 4000) = false := by simp; omega
      have HS := Lib.hid (show sizeErr a b = 3 by unfold sizeErr; rw [if_pos (by omega)])
      clear h3
      go_enter Tryd.func25, Tryd.ntmps25
      go_wp2_with (first | (go_at_call 58; refine (in_any _ _ _ _).mono ?_; rintro e w' ⟨rfl, rfl⟩) | (go_at_call 8; refine (when_any _ _ _).mono ?_; rintro e w' ⟨rfl, rfl⟩) | (go_at_call 6; refine (first2_new _ _ _).mono ?_; rintro e w' ⟨rfl, rfl⟩))
      go_ret
      exact ⟨ret_int (by rw [HS.out]; rfl), new_below _ _⟩
  · have h1d : decide (1 ≤ a ∧ a ≤ 4000) = false := by simp; omega
    have HS := Lib.hid (show sizeErr a b = 3 by unfold sizeErr; rw [if_pos (by omega)])
    clear h1
    go_enter Tryd.func25, Tryd.ntmps25
    go_wp2_with (first | (go_at_call 58; refine (in_any _ _ _ _).mono ?_; rintro e w' ⟨rfl, rfl⟩) | (go_at_call 8; refine (when_any _ _ _).mono ?_; rintro e w' ⟨rfl, rfl⟩) | (go_at_call 6; refine (first2_new _ _ _).mono ?_; rintro e w' ⟨rfl, rfl⟩))
    go_ret
    exact ⟨ret_int (by rw [HS.out]; rfl), new_below _ _⟩

theorem sizeErr_zero {a b : Int} (h : sizeErr a b = 0) : (1 ≤ a ∧ a ≤ 4000 ∧ 1 ≤ b ∧ b ≤ 4000) ∧ 0 ≤ a * b ∧ a * b ≤ 1048576 := by
  unfold sizeErr at h
  split at h
  · simp at h
  · split at h
    · simp at h
    · have := mul_small (by omega : 1 ≤ a) (by omega : 1 ≤ b) (by omega) (by omega)
      omega

/-- The error of a page: of its size, else of the number of its pixels. -/
def pageErr (a b : Int) (n : Nat) : Int := if sizeErr a b = 0 then (if (n : Int) = a * b then 0 else 2) else sizeErr a b

theorem check_any (a b : Int) (n : Nat) (w : World) : Calls Tryd.prog 57 #[.int .i64 a, .int .i64 b, .int .i64 n] w fun r w' => r = .returned (.int .i64 (pageErr a b n)) ∧ w = w' := by
  by_cases h : sizeErr a b = 0
  · have hz := sizeErr_zero h
    have H := Lib.hid h
    have hs : pageErr a b n = if (n : Int) = a * b then 0 else 2 := by unfold pageErr; rw [if_pos h]
    have HS := Lib.hid hs
    have hw : wrap64 (a * b) = a * b := by unfold wrap64; omega
    by_cases h2 : (n : Int) = a * b
    · have h2' : ((n : Int) != a * b) = false := by simpa using h2
      have H2 := Lib.hid h2
      clear h2 hs
      go_enter Tryd.func57, Tryd.ntmps57
      go_wp2_with ((go_at_call 59; refine (checkSize_any _ _ _).mono ?_; rintro e w' ⟨rfl, rfl⟩))
      go_ret
      exact ⟨ret_int (by rw [HS.out, if_pos H2.out]), rfl⟩
    · have h2' : ((n : Int) != a * b) = true := by simpa using h2
      have H2 := Lib.hid h2
      clear h2 hs
      go_enter Tryd.func57, Tryd.ntmps57
      go_wp2_with ((go_at_call 59; refine (checkSize_any _ _ _).mono ?_; rintro e w' ⟨rfl, rfl⟩))
      go_ret
      exact ⟨ret_int (by rw [HS.out, if_neg H2.out]), rfl⟩
  · have h' : (sizeErr a b != 0) = true := by simpa using h
    have H := Lib.hid h
    clear h
    go_enter Tryd.func57, Tryd.ntmps57
    go_wp2_with ((go_at_call 59; refine (checkSize_any _ _ _).mono ?_; rintro e w' ⟨rfl, rfl⟩))
    go_ret
    exact ⟨ret_int (by unfold pageErr; rw [if_neg H.out]), rfl⟩

theorem checkBits_any (a b : Int) (p : Option Addr) (n c : Nat) (w : World) : Calls Tryd.prog 22 #[.agg #[.int .i64 a, .int .i64 b, .slice p n c]] w fun r w' => r = .returned (.int .i64 (pageErr a b n)) ∧ w.alloc (.cells #[.int .i64 a, .int .i64 b, .slice p n c] 24) = w' := by
  go_enter Tryd.func22, Tryd.ntmps22
  go_wp2_with ((go_at_call 57; refine (check_any _ _ _ _).mono ?_; rintro e w' ⟨rfl, rfl⟩))
  go_ret
  exact ⟨rfl, rfl⟩

end Go.Proofs.YtofcojcfcpfdmaaDoor
namespace Go.Proofs.YtofcojcfcpfdmaaDoor
open Go.RowKit
set_option linter.unusedSimpArgs false
set_option linter.unusedVariables false

theorem mul_wrap_zero {a b : Int} (h : sizeErr a b = 0) : IntKind.i64.wrap (a * b) = a * b := by
  have := sizeErr_zero h
  exact IntWalk.i64_in _ (by omega)

theorem err_shape (a b : Int) (n : Nat) : orI (sizeErr a b) (whenI ((n : Int) != IntKind.i64.wrap (a * b)) 2) = pageErr a b n := by
  unfold orI whenI pageErr
  by_cases h : sizeErr a b = 0
  · rw [mul_wrap_zero h, if_pos h, if_pos h]
    by_cases h2 : (n : Int) = a * b
    · rw [if_pos h2, if_neg (by simpa using h2)]
    · rw [if_neg h2, if_pos (by simpa using h2)]
  · rw [if_neg h, if_neg h]

set_option maxRecDepth 100000 in
theorem bitsError_any (a b : Int) (p : Option Addr) (n c : Nat) (w : World) :
    Calls Tryd.prog 7 #[.agg #[.int .i64 a, .int .i64 b, .slice p n c]] w fun r w' => r = .returned (.int .i64 (pageErr a b n)) ∧ Below w.heap.size w w' := by
  go_enter Tryd.func7, Tryd.ntmps7
  go_wp2
  go_region_held3 (fun w' => w'.cell? ⟨w.heap.size, 0, none⟩ = some (.int .i64 a) ∧ w'.cell? ⟨w.heap.size, 1, none⟩ = some (.int .i64 b) ∧ w'.cell? ⟨w.heap.size, 2, none⟩ = some (.slice p n c)) (first | go_keep | (go_split_ands; exact ⟨cell_later hb (by assumption), cell_later hb (by assumption), cell_later hb (by assumption)⟩)) ((first | (go_at_call 25; refine (sizeError_any _ _ _).mono ?_; rintro e w' ⟨rfl, hb⟩) | (go_at_call 8; refine (when_any _ _ _).mono ?_; rintro e w' ⟨rfl, rfl⟩) | (go_at_call 6; refine (first2_new _ _ _).mono ?_; rintro e w' ⟨rfl, rfl⟩)))
  go_wp2
  go_ret
  exact ⟨ret_int (err_shape a b n), below_alloc (below_step (new_below _ _).drew hb) _⟩

end Go.Proofs.YtofcojcfcpfdmaaDoor
namespace Go.Proofs.YtofcojcfcpfdmaaDoor
open Go.RowKit
set_option linter.unusedSimpArgs false
set_option linter.unusedVariables false

/-- The first n places of a page that is w wide, row by row. -/
def places {α : Type} (w : Nat) (f : Nat → Nat → α) (n : Nat) : List α := (List.range n).map fun k => f (k % w) (k / w)

theorem places_length {α : Type} (w : Nat) (f : Nat → Nat → α) (n : Nat) : (places w f n).length = n := by simp [places]

theorem places_succ {α : Type} (w : Nat) (f : Nat → Nat → α) (x y : Nat) (hx : x < w) : places w f (y * w + x + 1) = places w f (y * w + x) ++ [f x y] := by
  have h1 : (y * w + x) % w = x := by rw [Nat.add_comm, Nat.mul_comm, Nat.add_mul_mod_self_left, Nat.mod_eq_of_lt hx]
  have h2 : (y * w + x) / w = y := by rw [Nat.add_comm, Nat.mul_comm, Nat.add_mul_div_left _ _ (by omega), Nat.div_eq_of_lt hx, Nat.zero_add]
  simp [places, List.range_succ, h1, h2]

theorem row_fits {w h y x : Nat} (hy : y < h) (hx : x ≤ w) : y * w + x ≤ w * h := by
  have : (y + 1) * w ≤ h * w := Nat.mul_le_mul_right _ hy
  rw [Nat.add_mul, Nat.one_mul] at this
  rw [Nat.mul_comm w h]
  omega

theorem below_owns {w w' : World} {base : Nat} {e : TypeId} {size : Nat} {v : Value} {n : Nat} {xs : List Value} (h : w.ownsRow base e size v n xs) (hb : Below w.heap.size w w') : w'.ownsRow base e size v n xs :=
  h.kept (row := none) ⟨hb.os, hb.tape, hb.output, hb.size, fun k hk _ => hb.block k hk⟩ (by cases v.ownBlock <;> simp)

theorem block3 {w : World} {b : Nat} {x y z : Value} {t : TypeId} (h : w.heap[b]? = some (.cells #[x, y, z] t (0, 0))) :
    w.cell? ⟨b, 0, none⟩ = some x ∧ w.cell? ⟨b, 1, none⟩ = some y ∧ w.cell? ⟨b, 2, none⟩ = some z ∧ w.frozen? ⟨b, 0, none⟩ = false ∧ w.frozen? ⟨b, 1, none⟩ = false ∧ w.frozen? ⟨b, 2, none⟩ = false :=
  ⟨by rw [cell_of_row w b 0 _ t (0, 0) h]; rfl, by rw [cell_of_row w b 1 _ t (0, 0) h]; rfl, by rw [cell_of_row w b 2 _ t (0, 0) h]; rfl, frozen_of_row w b 0 _ t h, frozen_of_row w b 1 _ t h, frozen_of_row w b 2 _ t h⟩

theorem owns_base {w : World} {base base' : Nat} {e : TypeId} {size : Nat} {v : Value} {n : Nat} {xs : List Value} (h : w.ownsRow base e size v n xs) (hb : base' ≤ base) : w.ownsRow base' e size v n xs := by
  obtain ⟨h1, h2⟩ := h
  refine ⟨h1, ?_⟩
  rcases h2 with h2 | ⟨g, cap, cur, hv, hg, r⟩
  · exact Or.inl h2
  · exact Or.inr ⟨g, cap, cur, hv, Nat.le_trans hb hg, r⟩

theorem info_bool : (Tryd.prog.info? 4).map (fun i => (i.zero, i.size, i.bytes)) = some (some (.bool false), 1, 1) := by kernel_rfl

theorem below_drewN {B : Nat} {a w : World} (h : Below B a w) (q : Nat) : Below B a (w.drewN q) := ⟨h.os, h.tape, h.output, h.size, h.block⟩

theorem below_block {w w' : World} {b : Nat} {o : Obj} (hb : Below w.heap.size w w') (h : w.heap[b]? = some o) : w'.heap[b]? = some o :=
  (hb.block b (Array.getElem?_eq_some_iff.1 h).1).trans h
theorem grown_block {w w' : World} {b : Nat} {o : Obj} {row : Option Nat} (hg : w.grownBy w' row) (h : w.heap[b]? = some o) (hne : some b ≠ row) : w'.heap[b]? = some o :=
  (hg.block b (Array.getElem?_eq_some_iff.1 h).1 hne).trans h

theorem cell_far3 {w : World} {b : Nat} {x y z r : Value} {a : Addr} (hne : a.block ≠ b) (h : w.cell? a = some r) : (((w.setCell ⟨b, 0, none⟩ x).setCell ⟨b, 1, none⟩ y).setCell ⟨b, 2, none⟩ z).cell? a = some r := by
  rw [World.cell?_of_block (Below.heap_setCell _ _ _ _ hne), World.cell?_of_block (Below.heap_setCell _ _ _ _ hne), World.cell?_of_block (Below.heap_setCell _ _ _ _ hne)]
  exact h

theorem below_far3 {w a : World} {B b : Nat} {x y z : Value} (h : Below B w a) (hb : B ≤ b) : Below B w (((a.setCell ⟨b, 0, none⟩ x).setCell ⟨b, 1, none⟩ y).setCell ⟨b, 2, none⟩ z) := ((h.setCell hb _).setCell hb _).setCell hb _

end Go.Proofs.YtofcojcfcpfdmaaDoor
namespace Go.Proofs
open Go.Shelf
def Tryd.lays169_ren : Go.Shelf.Ren := ⟨fun | 169 => 34 | n => n, fun | 70 => 62 | 9 => 9 | 0 => 0 | 72 => 64 | 37 => 37 | 127 => 91 | 3 => 3 | 5 => 5 | n => n, fun | n => n⟩
theorem Tryd.lays169 : Go.Proofs.Lays.n169 Tryd.prog Tryd.lays169_ren := {
  mixed := by kernel_rfl
  f169 := Tryd.func34.trans (congrArg some (by kernel_rfl))
  t0 := Tryd.underlying0
  a0 := Tryd.isAgg0
  z0 := Tryd.sizeOf0
  v0 := Tryd.zeroValue0
  t3 := Tryd.underlying3
  a3 := Tryd.isAgg3
  z3 := Tryd.sizeOf3
  v3 := Tryd.zeroValue3
  t9 := Tryd.underlying9
  a9 := Tryd.isAgg9
  z9 := Tryd.sizeOf9
  v9 := Tryd.zeroValue9
  t37 := Tryd.underlying37
  a37 := Tryd.isAgg37
  z37 := Tryd.sizeOf37
  v37 := Tryd.zeroValue37
  t70 := Tryd.underlying62
  a70 := Tryd.isAgg62
  z70 := Tryd.sizeOf62
  v70 := Tryd.zeroValue62
  t72 := Tryd.underlying64
  a72 := Tryd.isAgg64
  z72 := Tryd.sizeOf64
  v72 := Tryd.zeroValue64
  t127 := Tryd.underlying91
  a127 := Tryd.isAgg91
  z127 := Tryd.sizeOf91
  v127 := Tryd.zeroValue91 }
theorem Tryd.Builder_Extra_169 : Builder.Extra Tryd.prog Tryd.lays169_ren := {
  sizeBuilder := by kernel_rfl
  liesBuilder := by kernel_rfl
  t5 := Tryd.underlying5
  a5 := Tryd.isAgg5
  z5 := Tryd.sizeOf5
  v5 := Tryd.zeroValue5
  infoByte := by kernel_rfl
  cellsByte := by kernel_rfl
  sizeByte := by kernel_rfl
  neB5 := by decide }
open Go.RowKit in
/-- (*strings.Builder).String: "String returns the accumulated string.": WHATEVER THE BUILDER HOLDS. (LAID: no walk: one application.) -/
theorem Tryd.Builder_String_any (B b : Nat) (l : List UInt8) (w : World) (h : Lib.IsBuilder 64 5 B b (Lib.byteCells l) w) (hBw : B ≤ w.heap.size) :
    Calls Tryd.prog 34 #[.pointer (some ⟨b, 0, none⟩)] w fun e w' => e = .returned (.string ⟨l.toArray⟩) ∧ Below B w w' := Any.Builder_String_any Tryd.lays169 Tryd.Builder_Extra_169 B b l w h hBw
def Tryd.lays137_ren : Go.Shelf.Ren := ⟨fun | 137 => 27 | 217 => 60 | 266 => 81 | n => n, fun | 9 => 9 | 5 => 5 | 3 => 3 | n => n, fun | n => n⟩
theorem Tryd.lays137 : Go.Proofs.Lays.n137 Tryd.prog Tryd.lays137_ren := {
  mixed := by kernel_rfl
  f137 := Tryd.func27.trans (congrArg some (by kernel_rfl))
  f217 := Tryd.func60.trans (congrArg some (by kernel_rfl))
  f266 := Tryd.func81.trans (congrArg some (by kernel_rfl))
  t3 := Tryd.underlying3
  a3 := Tryd.isAgg3
  z3 := Tryd.sizeOf3
  v3 := Tryd.zeroValue3
  t5 := Tryd.underlying5
  a5 := Tryd.isAgg5
  z5 := Tryd.sizeOf5
  v5 := Tryd.zeroValue5
  t9 := Tryd.underlying9
  a9 := Tryd.isAgg9
  z9 := Tryd.sizeOf9
  v9 := Tryd.zeroValue9 }
open Go.RowKit in
/-- strings.IndexByte: "IndexByte returns the index of the first instance of c in s, or -1 if c is not present in s.": IT RETURNS 'Lib.indexByte s c'; the world is as it was. (LAID: no walk: one application.) -/
theorem Tryd.strings_IndexByte (s : ByteArray) (c : Int) (w : World) :
    Calls Tryd.prog 27 #[.string s, .int .u8 c] w fun e w' => e = .returned (.int .i64 (Lib.indexByte s.data.toList c.toNat.toUInt8)) ∧ w' = w := Any.strings_IndexByte Tryd.lays137 s c w
def Tryd.lays219_ren : Go.Shelf.Ren := ⟨fun | 219 => 82 | 217 => 60 | 225 => 97 | 224 => 98 | 267 => 99 | 266 => 81 | 314 => 106 | n => n, fun | 9 => 9 | 3 => 3 | 4 => 4 | 5 => 5 | 46 => 122 | 146 => 131 | 51 => 130 | n => n, fun | 1 => 0 | n => n⟩
theorem Tryd.lays219 : Go.Proofs.Lays.n219 Tryd.prog Tryd.lays219_ren := {
  mixed := by kernel_rfl
  f217 := Tryd.func60.trans (congrArg some (by kernel_rfl))
  f219 := Tryd.func82.trans (congrArg some (by kernel_rfl))
  f224 := Tryd.func98.trans (congrArg some (by kernel_rfl))
  f225 := Tryd.func97.trans (congrArg some (by kernel_rfl))
  f266 := Tryd.func81.trans (congrArg some (by kernel_rfl))
  f267 := Tryd.func99.trans (congrArg some (by kernel_rfl))
  f314 := Tryd.func106.trans (congrArg some (by kernel_rfl))
  t3 := Tryd.underlying3
  a3 := Tryd.isAgg3
  z3 := Tryd.sizeOf3
  v3 := Tryd.zeroValue3
  t4 := Tryd.underlying4
  a4 := Tryd.isAgg4
  z4 := Tryd.sizeOf4
  v4 := Tryd.zeroValue4
  t5 := Tryd.underlying5
  a5 := Tryd.isAgg5
  z5 := Tryd.sizeOf5
  v5 := Tryd.zeroValue5
  t9 := Tryd.underlying9
  a9 := Tryd.isAgg9
  z9 := Tryd.sizeOf9
  v9 := Tryd.zeroValue9
  t46 := Tryd.underlying122
  a46 := Tryd.isAgg122
  z46 := Tryd.sizeOf122
  v46 := Tryd.zeroValue122
  t51 := Tryd.underlying130
  a51 := Tryd.isAgg130
  z51 := Tryd.sizeOf130
  v51 := Tryd.zeroValue130
  t146 := Tryd.underlying131
  a146 := Tryd.isAgg131
  z146 := Tryd.sizeOf131
  v146 := Tryd.zeroValue131
  g1 := by kernel_rfl }
open Go.RowKit Go.Lib in
/-- internal/stringslite.Index (what strings.Index calls) AT A substr OF ONE BYTE c: IT RETURNS 'Lib.indexByte s c'; the world is as it was. (LAID: no walk: one application.) -/
theorem Tryd.stringslite_Index_one (s : ByteArray) (c : UInt8) (w : World) :
    Calls Tryd.prog 82 #[.string s, .string ⟨#[c]⟩] w fun e w' => e = .returned (.int .i64 (Lib.indexByte s.data.toList c)) ∧ w' = w := Any.stringslite_Index_one Tryd.lays219 s c w
def Tryd.lays160_ren : Go.Shelf.Ren := ⟨fun | 160 => 36 | 232 => 64 | 231 => 63 | 227 => 65 | 234 => 67 | 233 => 66 | 236 => 69 | 235 => 68 | 228 => 84 | 271 => 87 | 151 => 86 | 197 => 85 | 120 => 102 | 152 => 101 | 260 => 100 | 137 => 27 | 119 => 107 | 224 => 98 | 225 => 97 | 217 => 60 | 266 => 81 | n => n, fun | 9 => 9 | 4 => 4 | 3 => 3 | 5 => 5 | 117 => 95 | 116 => 94 | 0 => 0 | 124 => 98 | 21 => 21 | 105 => 114 | 46 => 122 | 119 => 133 | 139 => 136 | 138 => 135 | n => n, fun | 3 => 2 | 4 => 3 | n => n⟩
theorem Tryd.lays160 : Go.Proofs.Lays.n160 Tryd.prog Tryd.lays160_ren := {
  mixed := by kernel_rfl
  f119 := Tryd.func107.trans (congrArg some (by kernel_rfl))
  f120 := Tryd.func102.trans (congrArg some (by kernel_rfl))
  f137 := Tryd.func27.trans (congrArg some (by kernel_rfl))
  f151 := Tryd.func86.trans (congrArg some (by kernel_rfl))
  f152 := Tryd.func101.trans (congrArg some (by kernel_rfl))
  f160 := Tryd.func36.trans (congrArg some (by kernel_rfl))
  f197 := Tryd.func85.trans (congrArg some (by kernel_rfl))
  f217 := Tryd.func60.trans (congrArg some (by kernel_rfl))
  f224 := Tryd.func98.trans (congrArg some (by kernel_rfl))
  f225 := Tryd.func97.trans (congrArg some (by kernel_rfl))
  f227 := Tryd.func65.trans (congrArg some (by kernel_rfl))
  f228 := Tryd.func84.trans (congrArg some (by kernel_rfl))
  f231 := Tryd.func63.trans (congrArg some (by kernel_rfl))
  f232 := Tryd.func64.trans (congrArg some (by kernel_rfl))
  f233 := Tryd.func66.trans (congrArg some (by kernel_rfl))
  f234 := Tryd.func67.trans (congrArg some (by kernel_rfl))
  f235 := Tryd.func68.trans (congrArg some (by kernel_rfl))
  f236 := Tryd.func69.trans (congrArg some (by kernel_rfl))
  f260 := Tryd.func100.trans (congrArg some (by kernel_rfl))
  f266 := Tryd.func81.trans (congrArg some (by kernel_rfl))
  f271 := Tryd.func87.trans (congrArg some (by kernel_rfl))
  t0 := Tryd.underlying0
  a0 := Tryd.isAgg0
  z0 := Tryd.sizeOf0
  v0 := Tryd.zeroValue0
  t3 := Tryd.underlying3
  a3 := Tryd.isAgg3
  z3 := Tryd.sizeOf3
  v3 := Tryd.zeroValue3
  t4 := Tryd.underlying4
  a4 := Tryd.isAgg4
  z4 := Tryd.sizeOf4
  v4 := Tryd.zeroValue4
  t5 := Tryd.underlying5
  a5 := Tryd.isAgg5
  z5 := Tryd.sizeOf5
  v5 := Tryd.zeroValue5
  t9 := Tryd.underlying9
  a9 := Tryd.isAgg9
  z9 := Tryd.sizeOf9
  v9 := Tryd.zeroValue9
  t21 := Tryd.underlying21
  a21 := Tryd.isAgg21
  z21 := Tryd.sizeOf21
  v21 := Tryd.zeroValue21
  t46 := Tryd.underlying122
  a46 := Tryd.isAgg122
  z46 := Tryd.sizeOf122
  v46 := Tryd.zeroValue122
  t105 := Tryd.underlying114
  a105 := Tryd.isAgg114
  z105 := Tryd.sizeOf114
  v105 := Tryd.zeroValue114
  t116 := Tryd.underlying94
  a116 := Tryd.isAgg94
  z116 := Tryd.sizeOf94
  t117 := Tryd.underlying95
  a117 := Tryd.isAgg95
  z117 := Tryd.sizeOf95
  v117 := Tryd.zeroValue95
  t119 := Tryd.underlying133
  a119 := Tryd.isAgg133
  z119 := Tryd.sizeOf133
  t124 := Tryd.underlying98
  a124 := Tryd.isAgg98
  z124 := Tryd.sizeOf98
  v124 := Tryd.zeroValue98
  t138 := Tryd.underlying135
  a138 := Tryd.isAgg135
  z138 := Tryd.sizeOf135
  v138 := Tryd.zeroValue135
  t139 := Tryd.underlying136
  a139 := Tryd.isAgg136
  z139 := Tryd.sizeOf136
  v139 := Tryd.zeroValue136
  g3 := by kernel_rfl
  g4 := by kernel_rfl }
end Go.Proofs
namespace Go.Proofs.YtofcojcfcpfdmaaDoor
open Go.RowKit
set_option linter.unusedSimpArgs false
set_option linter.unusedVariables false

def okLetter (b : UInt8) : Bool := b == 35 || b == 46
/-- A row of a printed page: not empty, all of '#' and '.'. -/
def rowB (l : List UInt8) : Bool := !l.isEmpty && l.all okLetter

/-- What Cut returns where there is a line feed. -/
def CutS (s : ByteArray) (i : Nat) (w : World) (e : Ending) (w' : World) : Prop :=
  ∃ a b : ByteArray, a.data.toList = s.data.toList.take i ∧ a.size = i ∧ b.data.toList = s.data.toList.drop (i + 1) ∧ b.size = s.size - (i + 1) ∧
    e = .returned (.tuple #[.string a, .string b, .bool true]) ∧ ∃ q, w' = w.drewN q

theorem slCut_none (s : ByteArray) (w : World) (hs : s.size ≤ 1000000) (h : Lib.indexByte s.data.toList 10 = -1) :
    Calls Tryd.prog 61 #[.string s, .string ⟨#[10]⟩] w fun e w' => e = .returned (.tuple #[.string s, .string ⟨#[]⟩, .bool false]) ∧ w = w' := by
  have HI := Lib.hid (Tryd.stringslite_Index_one s 10 w)
  have HH := Lib.hid h
  clear h
  go_enter Tryd.func61, Tryd.ntmps61
  go_wp2_with (go_at_call 82; refine HI.out.mono ?_; rintro e w1 ⟨rfl, rfl⟩; rw [HH.out])
  go_ret3
  exact ⟨rfl, rfl⟩

theorem slCut_some (s : ByteArray) (i : Nat) (w : World) (hs : s.size ≤ 1000000) (h : Lib.indexByte s.data.toList 10 = (i : Int)) (hi : i < s.size) :
    Calls Tryd.prog 61 #[.string s, .string ⟨#[10]⟩] w (CutS s i w) := by
  have HI := Lib.hid (Tryd.stringslite_Index_one s 10 w)
  have HH := Lib.hid h
  have h1 : (i : Int) + 1 ≤ (s.size : Int) := by omega
  have h2 : i + 1 ≤ s.size := by omega
  have h3 : i ≤ s.size := by omega
  clear h
  go_enter Tryd.func61, Tryd.ntmps61
  go_wp2_with (go_at_call 82; refine HI.out.mono ?_; rintro e w1 ⟨rfl, rfl⟩; rw [HH.out])
  go_quiet (fail)
  go_wp2_with fail
  go_ret3
  refine ⟨s.extract 0 i, s.extract (i + 1) s.size, ?_, ?_, ?_, ?_, rfl, _, rfl⟩
  · rw [Lib.extract_data]; simp
  · simp; omega
  · exact Lib.extract_to_end s (i + 1)
  · simp

theorem cut_none (s : ByteArray) (w : World) (hs : s.size ≤ 1000000) (h : Lib.indexByte s.data.toList 10 = -1) :
    Calls Tryd.prog 28 #[.string s, .string ⟨#[10]⟩] w fun e w' => e = .returned (.tuple #[.string s, .string ⟨#[]⟩, .bool false]) ∧ w = w' := by
  have HI := Lib.hid (slCut_none s w hs h)
  clear h
  go_enter Tryd.func28, Tryd.ntmps28
  go_wp2_with (go_at_call 61; refine HI.out.mono ?_; rintro e w1 ⟨rfl, rfl⟩)
  go_ret3
  exact ⟨rfl, rfl⟩

theorem cut_some (s : ByteArray) (i : Nat) (w : World) (hs : s.size ≤ 1000000) (h : Lib.indexByte s.data.toList 10 = (i : Int)) (hi : i < s.size) :
    Calls Tryd.prog 28 #[.string s, .string ⟨#[10]⟩] w (CutS s i w) := by
  have HI := Lib.hid (slCut_some s i w hs h hi)
  clear h
  go_enter Tryd.func28, Tryd.ntmps28
  go_wp2_with fail
  refine HI.out.mono ?_
  rintro e w1 ⟨a, b, ha, hz, hb, hy, rfl, q, rfl⟩
  have HA := Lib.hid ha
  have HZ := Lib.hid hz
  have HB := Lib.hid hb
  have HY := Lib.hid hy
  clear ha hz hb hy
  go_wp2_with fail
  go_ret3
  exact ⟨a, b, HA.out, HZ.out, HB.out, HY.out, rfl, q, rfl⟩

theorem get_byte (s : ByteArray) (k : Nat) (h : k < s.size) : s.data.toList[k]? = some s[k] := by
  rw [List.getElem?_eq_getElem (by simpa using h)]; rfl

theorem all_snoc (s : ByteArray) (k : Nat) (h : k < s.size) : (s.data.toList.take (k + 1)).all okLetter = ((s.data.toList.take k).all okLetter && okLetter s[k]) := by
  rw [List.take_succ_eq_append_getElem (by simpa using h), List.all_append]
  simp
  rfl

set_option maxHeartbeats 800000 in
theorem isRow_any (s : ByteArray) (w : World) (hs : s.size ≤ 1000000) :
    Calls Tryd.prog 29 #[.string s] w fun e w' => e = .returned (.bool (rowB s.data.toList)) ∧ w = w' := by
  go_enter Tryd.func29, Tryd.ntmps29
  go_wp2_with fail
  go_loop [6] (fun i => ∃ k : Nat, k ≤ s.size ∧ i = .int .i64 k ∧ Hid ((s.data.toList.take k).all okLetter = true)) (fun i => s.size - (intOf i).toNat)
  case atStart => exact ⟨0, Nat.zero_le _, rfl, Lib.hid (by simp)⟩
  case round =>
    obtain ⟨k, hk, rfl, hA⟩ := hrel
    by_cases hlt : k < s.size
    · have HS := Lib.hid (all_snoc s k hlt)
      have hbad : okLetter s[k] = false → rowB s.data.toList = false := fun h => by
        unfold rowB
        have : s.data.toList.all okLetter = false := by
          rw [← List.take_append_drop (k + 1) s.data.toList, List.all_append, HS.out, h]
          simp
        rw [this, Bool.and_false]
      have HBAD := Lib.hid hbad
      clear hbad
      by_cases h1 : (s[k].toNat : Int) = 35
      · have h1' : ((s[k].toNat : Int) != 35) = false := by simpa using h1
        have hok : okLetter s[k] = true := by
          have : s[k] = 35 := UInt8.toNat_inj.mp (by have : ((35 : UInt8).toNat : Int) = 35 := rfl; omega)
          rw [this]; rfl
        have HOK := Lib.hid hok
        clear h1 hok
        go_wp2_with fail
        go_round
        case rel => exact ⟨k + 1, by omega, by go_num, Lib.hid (by rw [HS.out, hA.out, HOK.out]; rfl)⟩
        case measure => simp [intOf]; omega
      · have h1' : ((s[k].toNat : Int) != 35) = true := by simpa using h1
        by_cases h2 : (s[k].toNat : Int) = 46
        · have h2' : ((s[k].toNat : Int) != 46) = false := by simpa using h2
          have hok : okLetter s[k] = true := by
            have : s[k] = 46 := UInt8.toNat_inj.mp (by have : ((46 : UInt8).toNat : Int) = 46 := rfl; omega)
            rw [this]; rfl
          have HOK := Lib.hid hok
          clear h1 h2 hok
          go_wp2_with fail
          go_round
          case rel => exact ⟨k + 1, by omega, by go_num, Lib.hid (by rw [HS.out, hA.out, HOK.out]; rfl)⟩
          case measure => simp [intOf]; omega
        · have h2' : ((s[k].toNat : Int) != 46) = true := by simpa using h2
          have hok : okLetter s[k] = false := by
            unfold okLetter
            have e1 : (s[k] == 35) = false := by
              simp only [beq_eq_false_iff_ne, ne_eq]
              intro e; apply h1; rw [e]; rfl
            have e2 : (s[k] == 46) = false := by
              simp only [beq_eq_false_iff_ne, ne_eq]
              intro e; apply h2; rw [e]; rfl
            rw [e1, e2]; rfl
          have HB := Lib.hid (HBAD.out hok)
          clear h1 h2 hok
          go_wp2_with fail
          go_ret
          exact ⟨by rw [HB.out]; rfl, rfl⟩
    · obtain rfl : k = s.size := by omega
      have hall : s.data.toList.all okLetter = true := by have h := hA.out; rwa [List.take_of_length_le (by simp)] at h
      have HALL := Lib.hid hall
      clear hall
      by_cases he : s.toList = []
      · have he' : s.toList.isEmpty = true := by rw [he]; rfl
        have HE := Lib.hid he
        go_wp2_with fail
        go_ret
        exact ⟨ret_bool (by unfold rowB; rw [← Lib.toList_data, HE.out]; rfl), rfl⟩
      · have he' : s.toList.isEmpty = false := by simpa using he
        have HE := Lib.hid he'
        clear he
        go_wp2_with fail
        go_ret
        exact ⟨ret_bool (by unfold rowB; rw [HALL.out, ← Lib.toList_data, HE.out]; rfl), rfl⟩

theorem trim_row (s : ByteArray) (w : World) (hs : s.size ≤ 1000000) :
    Calls Tryd.prog 36 #[.string s, .string ⟨#[35, 46]⟩] w fun e w' => e = .returned (.string ⟨(Lib.trimS s.data.toList [35, 46]).toArray⟩) ∧ Below w.heap.size w w' :=
  Any.strings_Trim_laid Tryd.lays160 (by kernel_rfl) s ⟨#[35, 46]⟩ w (by omega) (by decide) (ascii_of_all (by decide))

end Go.Proofs.YtofcojcfcpfdmaaDoor
namespace Go.Proofs.YtofcojcfcpfdmaaDoor
set_option linter.unusedSimpArgs false
set_option linter.unusedVariables false

/-- The first line of r is a row of w letters with a line feed behind it. -/
def lineB (w : Nat) (r : List UInt8) : Bool := decide (Lib.indexByte r 10 = (w : Int)) && rowB (r.take w)
/-- How many lines there are, all right; or the number of the first that is not. -/
def parseGo (w : Nat) : Nat → List UInt8 → Nat → Bool × Nat
  | 0, _, h => (true, h)
  | f + 1, r, h => if r.isEmpty then (true, h) else if lineB w r then parseGo w f (r.drop (w + 1)) (h + 1) else (false, h)
def pW (l : List UInt8) : Nat := (Lib.indexByte l 10).toNat
def pOut (l : List UInt8) : Bool × Nat := parseGo (pW l) (l.length + 1) l 0
def pErr (l : List UInt8) : Int :=
  if 40200 < l.length then 4 else if (pOut l).1 = false then 8 else if (pOut l).2 = 0 then 9 else if 200 < pW l ∨ 200 < (pOut l).2 then 4 else 0
def pAt (l : List UInt8) : Nat := if 40200 < l.length then 0 else if (pOut l).1 = false then (pOut l).2 else 0
def inkOf (l : List UInt8) (w x y : Nat) : Bool := decide (l.getD (y * (w + 1) + x) 0 = 35)

theorem parseGo_end {w f h : Nat} {r : List UInt8} (hr : r = []) : parseGo w (f + 1) r h = (true, h) := by rw [parseGo, if_pos (by rw [hr]; rfl)]
theorem parseGo_bad {w f h : Nat} {r : List UInt8} (hr : r ≠ []) (hl : lineB w r = false) : parseGo w (f + 1) r h = (false, h) := by
  rw [parseGo, if_neg (by simpa using hr), if_neg (by rw [hl]; decide)]
theorem parseGo_good {w f h : Nat} {r : List UInt8} (hr : r ≠ []) (hl : lineB w r = true) : parseGo w (f + 1) r h = parseGo w f (r.drop (w + 1)) (h + 1) := by
  rw [parseGo, if_neg (by simpa using hr), if_pos hl]
theorem rowB_ne {l : List UInt8} (h : rowB l = true) : l ≠ [] := by
  intro e; rw [e] at h; cases h

theorem indexByte_lt {l : List UInt8} {i : Nat} (h : Lib.indexByte l 10 = (i : Int)) : i < l.length := by
  have := (Lib.indexByte_some h).1
  exact (List.getElem?_eq_some_iff.1 this).1
theorem indexByte_cases (l : List UInt8) : Lib.indexByte l 10 = -1 ∨ ∃ i : Nat, Lib.indexByte l 10 = (i : Int) := by
  have := Lib.indexByte_ge l 10
  by_cases h : Lib.indexByte l 10 = -1
  · exact .inl h
  · exact .inr (Int.eq_ofNat_of_zero_le (by omega))

/-- A page that a function returns: none with an error; else W by H, its places in new memory. -/
def PgIs (E : Int) (a b : Nat) (f : Nat → Nat → Bool) (w : World) (i j : Int) (sl : Option Addr) (n' c' : Nat) : Prop :=
  (E ≠ 0 ∧ i = 0 ∧ j = 0 ∧ sl = none ∧ n' = 0 ∧ c' = 0) ∨
  (E = 0 ∧ i = (a : Int) ∧ j = (b : Int) ∧ n' = a * b ∧ ∃ g, sl = some ⟨g, 0, none⟩ ∧ ∀ k, k < n' → w.cell? ⟨g, 0 + k, none⟩ = some (.bool (f (k % a) (k / a))))

/-- Where the parse of a text ended well it has h rows of w letters each. -/
theorem pErr_large {l : List UInt8} (h : 40200 < l.length) : pErr l = 4 ∧ pAt l = 0 := by unfold pErr pAt; rw [if_pos h, if_pos h]; exact ⟨rfl, rfl⟩
theorem pErr_bad {l : List UInt8} {h : Nat} (h0 : ¬ 40200 < l.length) (ho : pOut l = (false, h)) : pErr l = 8 ∧ pAt l = h := by unfold pErr pAt; rw [if_neg h0, if_neg h0, ho]; exact ⟨rfl, rfl⟩
theorem pErr_empty {l : List UInt8} (h0 : ¬ 40200 < l.length) (ho : pOut l = (true, 0)) : pErr l = 9 ∧ pAt l = 0 := by unfold pErr pAt; rw [if_neg h0, if_neg h0, ho]; exact ⟨rfl, rfl⟩
theorem pErr_wide {l : List UInt8} {h : Nat} (h0 : ¬ 40200 < l.length) (ho : pOut l = (true, h)) (h1 : h ≠ 0) (h2 : 200 < pW l ∨ 200 < h) : pErr l = 4 ∧ pAt l = 0 := by
  unfold pErr pAt; rw [if_neg h0, if_neg h0, ho]; simp only []; rw [if_neg (by decide), if_neg h1, if_pos h2]; exact ⟨rfl, rfl⟩
theorem pErr_ok {l : List UInt8} {h : Nat} (h0 : ¬ 40200 < l.length) (ho : pOut l = (true, h)) (h1 : h ≠ 0) (h2 : ¬ (200 < pW l ∨ 200 < h)) : pErr l = 0 ∧ pAt l = 0 := by
  unfold pErr pAt; rw [if_neg h0, if_neg h0, ho]; simp only []; rw [if_neg (by decide), if_neg h1, if_neg h2]; exact ⟨rfl, rfl⟩

end Go.Proofs.YtofcojcfcpfdmaaDoor
namespace Go.Proofs.YtofcojcfcpfdmaaDoor
open Go.RowKit
set_option linter.unusedSimpArgs false
set_option linter.unusedVariables false

set_option maxHeartbeats 800000 in
set_option maxRecDepth 100000 in
theorem fillBool_any (w h g : Nat) (capt : Array Value) (f : Nat → Nat → Bool) (W0 : World) (hw : 1 ≤ w) (hw' : w ≤ 10000000) (hh : h ≤ 10000000) (hN : w * h ≤ 10000000)
    (eg : ∀ (args : Array Value) (W : World), (callFunc g args).run Tryd.prog W = .ok (.enter g args) W)
    (hc : ∀ (x y : Nat) (W : World), x < w → y < h → Below W0.heap.size W0 W → Calls Tryd.prog g (#[.int .i64 x, .int .i64 y] ++ capt) W fun e W' => e = .returned (.bool (f x y)) ∧ Below W.heap.size W W') :
    Calls Tryd.prog 30 #[.int .i64 w, .int .i64 h, .func (.func g) #[] capt] W0 fun e W' =>
      ∃ v, e = .returned v ∧ W'.ownsRow W0.heap.size 4 1 v (w * h) ((places w f (w * h)).map (Value.bool)) ∧ Below W0.heap.size W0 W' := by
  obtain ⟨i0, hi, hz0, hz1, hz2⟩ := info_parts info_bool
  have m0 : (0 : Int) ≤ (w : Int) * (h : Int) := Int.mul_nonneg (by omega) (by omega)
  have m1 : (w : Int) * (h : Int) ≤ 10000000 := by rw [← Int.natCast_mul]; omega
  have HC := Lib.hid hc
  clear hc
  go_enter Tryd.func30, Tryd.ntmps30
  go_wp2_with (at_make; refine wpList_make_own _ rfl _ _ 22 rfl W0.heap.size 4 i0 (.bool false) 1 Tryd.underlying22 hi hz0 hz1 _ _ _ (w * h) rfl rfl (by rw [Int.natCast_mul]) (by rw [hz2]; omega) (by unfold maxLen; omega) (Nat.le_refl _) ?_)
  intro w1 hown1 hgrow1
  have hb1 : Below W0.heap.size W0 w1 := (Below.refl _ _).grown hgrow1 (Nat.le_refl _) (by simp)
  clear hgrow1
  go_wp2
  go_loopw [7, 15] (fun v i wr => ∃ y : Nat, y ≤ h ∧ i = .int .i64 y ∧ wr.ownsRow W0.heap.size 4 1 v (y * w) ((places w f (y * w)).map (Value.bool)) ∧ Below W0.heap.size W0 wr) (fun _ i _ => h - (intOf i).toNat)
  case atStart => exact ⟨0, Nat.zero_le _, rfl, by simpa [places] using hown1, hb1⟩
  case round =>
    obtain ⟨y, hy, rfl, hown, hb⟩ := hrel
    clear hown1 hb1
    by_cases hlt : y < h
    · obtain ⟨wo, rfl⟩ : ∃ wo : World, wo = wr := ⟨_, rfl⟩
      go_wp2
      go_loopw [7, 19] (fun v i wr => ∃ x : Nat, x ≤ w ∧ i = .int .i64 x ∧ wr.ownsRow W0.heap.size 4 1 v (y * w + x) ((places w f (y * w + x)).map (Value.bool)) ∧ Below W0.heap.size W0 wr) (fun _ i _ => w - (intOf i).toNat)
      case atStart => exact ⟨0, Nat.zero_le _, rfl, by simpa using hown, hb⟩
      case round =>
        obtain ⟨x, hx, rfl, hownr, hbr⟩ := hrel
        clear hown hb
        by_cases hltx : x < w
        · have HC' := HC.out x y
          have hfit := row_fits hlt (show x + 1 ≤ w by omega)
          go_wp2_with (first | (go_at_fn g; refine (HC' _ hltx hlt hbr).mono ?_; rintro e w' ⟨rfl, hb'⟩; have hown' := below_owns hownr hb') | (at_builtin; refine wpList_append_own _ rfl _ _ 22 rfl W0.heap.size 4 i0 (.bool false) 1 1 Tryd.underlying22 hi hz0 hz1 hz2 rfl (by decide) _ _ _ rfl (hown'.alloc _) ⟨w'.heap.size, 0, none⟩ 1 1 [.bool (f x y)] rfl rfl ?c1 ?c2 ?c3 ?c4 ?c5 ?_))
          case c1 => exact cell_one_new _ _ _
          case c2 => intro u hu; simp at hu; subst hu; rfl
          case c3 => unfold maxLen; omega
          case c4 => omega
          case c5 => have h1 := hbr.size; have h2 := hb'.size; simp; omega
          · intro v' w2 hown2 hgr2 _
            have hb2 : Below W0.heap.size W0 w2 := (((hbr.trans (hb'.mono hbr.size))).alloc (Nat.le_trans hbr.size hb'.size) _).grown hgr2 (by have h1 := hbr.size; have h2 := hb'.size; simp; omega) (fun k hk => (hown'.lt k hk).1)
            have hp := Lib.hid (places_succ w f x y hltx)
            clear hgr2 hown' hownr hbr hb' HC'
            go_wp2
            go_roundw
            case rel => exact ⟨x + 1, by omega, by go_num, by rw [← Nat.add_assoc, hp.out, List.map_append]; exact hown2, hb2⟩
            case measure => simp [intOf]; omega
        · have hxe := Lib.hid (show x = w by omega)
          go_wp2
          go_roundw
          case rel => exact ⟨y + 1, by omega, by go_num, by rw [show (y + 1) * w = y * w + x by rw [hxe.out, Nat.add_mul, Nat.one_mul]]; exact hownr, hbr⟩
          case measure => simp [intOf]; omega
    · have hye := Lib.hid (show y = h by omega)
      go_wp2
      go_ret
      exact ⟨_, rfl, by rw [Nat.mul_comm w h, ← hye.out]; exact hown, hb⟩

end Go.Proofs.YtofcojcfcpfdmaaDoor
