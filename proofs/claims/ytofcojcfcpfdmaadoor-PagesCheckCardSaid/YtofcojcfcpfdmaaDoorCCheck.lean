/-
  The tied card of PagesCheck: for every page in grey and every page in black and white the law returns true, and each argument reads afterwards as it read before. Condition: the listed package variable starts as the program's text lays it (the card ties it to that text).
-/
import Derived.Test.YtofcojcfcpfdmaaDoorRows
import Derived.WalkKit
import Derived.WalkSpells
import Derived.WalkLawsBesides
import Derived.Lib.Hide
import Derived.Deep.RegionHeld3
import Derived.Shelf.Abstract
import Derived.ProofKit
import Derived.OpenShut
import Derived.ShutString
import Derived.ChangeOld
import Derived.Lib.SmallJoins
import Derived.Deep.Grids
import Derived.Test.YtofcojcfcpfdmaaDoorTie
import Derived.Test.YtofcojcfcpfdmaaDoorCards
import Derived.Handy
import Derived.Lay
import Derived.SevenTiedAt
namespace Go.Proofs.YtofcojcfcpfdmaaDoor
open Go.RowKit
set_option linter.unusedSimpArgs false
set_option linter.unusedVariables false

theorem ret_int {k : IntKind} {a b : Int} (h : a = b) : Ending.returned (.int k a) = .returned (.int k b) := by rw [h]
theorem ret_bool {a b : Bool} (h : a = b) : Ending.returned (.bool a) = .returned (.bool b) := by rw [h]

/-- 'e, if c, else no error'. -/
def whenI (c : Bool) (e : Int) : Int := if c then e else 0

theorem when_any (c : Bool) (e : Int) (w : World) : Calls Tryd.prog 8 #[.bool c, .int .i64 e] w fun r w' => r = .returned (.int .i64 (whenI c e)) ∧ w = w' := by
  cases c
  · go_enter Tryd.func8, Tryd.ntmps8
    go_wp2
    go_ret
    exact ⟨rfl, rfl⟩
  · go_enter Tryd.func8, Tryd.ntmps8
    go_wp2
    go_ret
    exact ⟨rfl, rfl⟩

theorem in_any (n a b : Int) (w : World) : Calls Tryd.prog 58 #[.int .i64 n, .int .i64 a, .int .i64 b] w fun r w' => r = .returned (.bool (decide (a ≤ n ∧ n ≤ b))) ∧ w = w' := by
  by_cases h : a ≤ n
  · go_enter Tryd.func58, Tryd.ntmps58
    go_wp2
    go_ret
    exact ⟨ret_bool (by simp [h]), rfl⟩
  · go_enter Tryd.func58, Tryd.ntmps58
    go_wp2
    go_ret
    exact ⟨ret_bool (by simp; omega), rfl⟩

theorem outside_no (n a b : Int) (w : World) (h : a ≤ n ∧ n ≤ b) : Calls Tryd.prog 43 #[.int .i64 n, .int .i64 a, .int .i64 b] w fun r w' => r = .returned (.bool false) ∧ w = w' := by
  obtain ⟨h1, h2⟩ := h
  have h3 : ¬ n < a := by omega
  have h4 : ¬ b < n := by omega
  go_enter Tryd.func43, Tryd.ntmps43
  go_wp2
  go_ret
  exact ⟨rfl, rfl⟩
theorem outside_yes (n a b : Int) (w : World) (h : ¬ (a ≤ n ∧ n ≤ b)) : Calls Tryd.prog 43 #[.int .i64 n, .int .i64 a, .int .i64 b] w fun r w' => r = .returned (.bool true) ∧ w = w' := by
  by_cases h1 : n < a
  · clear h
    go_enter Tryd.func43, Tryd.ntmps43
    go_wp2
    go_ret
    exact ⟨rfl, rfl⟩
  · have h4 : b < n := by omega
    clear h
    go_enter Tryd.func43, Tryd.ntmps43
    go_wp2
    go_ret
    exact ⟨rfl, rfl⟩
/-- The error of a size. -/
def sizeErr (w h : Int) : Int := if w < 1 ∨ h < 1 ∨ 4000 < w ∨ 4000 < h then 3 else if 1048576 < w * h then 4 else 0

theorem mul_small {a b : Int} (ha : 1 ≤ a) (hb : 1 ≤ b) (ha' : a ≤ 4000) (hb' : b ≤ 4000) : 0 ≤ a * b ∧ a * b ≤ 16000000 := by
  refine ⟨Int.mul_nonneg (by omega) (by omega), ?_⟩
  have := Int.mul_le_mul ha' hb' (by omega) (by omega : (0:Int) ≤ 4000)
  omega

set_option maxRecDepth 100000 in
theorem checkSize_any (a b : Int) (w : World) : Calls Tryd.prog 59 #[.int .i64 a, .int .i64 b] w fun r w' => r = .returned (.int .i64 (sizeErr a b)) ∧ w = w' := by
  by_cases h1 : 1 ≤ a ∧ a ≤ 4000
  · have H1 := Lib.hid h1
    by_cases h2 : 1 ≤ b ∧ b ≤ 4000
    · have H2 := Lib.hid h2
      have hm := mul_small (by omega : 1 ≤ a) (by omega : 1 ≤ b) (by omega) (by omega)
      have hw : wrap64 (a * b) = a * b := by unfold wrap64; omega
      by_cases h5 : 1048576 < a * b
      · have HS := Lib.hid (show sizeErr a b = 4 by unfold sizeErr; rw [if_neg (by omega), if_pos h5])
        clear h1 h2
        go_enter Tryd.func59, Tryd.ntmps59
        go_wp2_with (first | (go_at_call 43; (with_reducible refine (outside_no a 1 4000 _ H1.out).mono ?_); rintro e w' ⟨rfl, rfl⟩) | (go_at_call 43; (with_reducible refine (outside_no b 1 4000 _ H2.out).mono ?_); rintro e w' ⟨rfl, rfl⟩))
        go_ret
        exact ⟨ret_int HS.out.symm, rfl⟩
      · have HS := Lib.hid (show sizeErr a b = 0 by unfold sizeErr; rw [if_neg (by omega), if_neg h5])
        clear h1 h2
        go_enter Tryd.func59, Tryd.ntmps59
        go_wp2_with (first | (go_at_call 43; (with_reducible refine (outside_no a 1 4000 _ H1.out).mono ?_); rintro e w' ⟨rfl, rfl⟩) | (go_at_call 43; (with_reducible refine (outside_no b 1 4000 _ H2.out).mono ?_); rintro e w' ⟨rfl, rfl⟩))
        go_ret
        exact ⟨ret_int HS.out.symm, rfl⟩
    · have H2 := Lib.hid h2
      have HS := Lib.hid (show sizeErr a b = 3 by unfold sizeErr; rw [if_pos (by omega)])
      clear h1 h2
      go_enter Tryd.func59, Tryd.ntmps59
      go_wp2_with (first | (go_at_call 43; (with_reducible refine (outside_no a 1 4000 _ H1.out).mono ?_); rintro e w' ⟨rfl, rfl⟩) | (go_at_call 43; (with_reducible refine (outside_yes b 1 4000 _ H2.out).mono ?_); rintro e w' ⟨rfl, rfl⟩))
      go_ret
      exact ⟨ret_int HS.out.symm, rfl⟩
  · have H1 := Lib.hid h1
    have HS := Lib.hid (show sizeErr a b = 3 by unfold sizeErr; rw [if_pos (by omega)])
    clear h1
    go_enter Tryd.func59, Tryd.ntmps59
    go_wp2_with (first | (go_at_call 43; (with_reducible refine (outside_yes a 1 4000 _ H1.out).mono ?_); rintro e w' ⟨rfl, rfl⟩))
    go_ret
    exact ⟨ret_int HS.out.symm, rfl⟩

/-- The first that is not 0. -/
def firstOf : List Int → Int
  | [] => 0
  | e :: r => if e = 0 then firstOf r else e

theorem firstOf_drop (xs : List Int) (k : Nat) (hk : k < xs.length) : firstOf (xs.drop k) = if xs.getD k 0 = 0 then firstOf (xs.drop (k + 1)) else xs.getD k 0 := by
  rw [List.drop_eq_getElem_cons hk]
  simp [firstOf, List.getD_eq_getElem?_getD, List.getElem?_eq_getElem hk]

theorem first_any (b : Nat) (xs : List Int) (w : World) (hn : xs.length ≤ 1000) (hc : ∀ j, j < xs.length → w.cell? ⟨b, j, none⟩ = some (.int .i64 (xs.getD j 0))) :
    Calls Tryd.prog 6 #[.slice (some ⟨b, 0, none⟩) xs.length xs.length] w fun r w' => r = .returned (.int .i64 (firstOf xs)) ∧ w = w' := by
  go_enter Tryd.func6, Tryd.ntmps6
  go_wp2
  go_loop [7] (fun i => ∃ k : Nat, k ≤ xs.length ∧ i = .int .i64 k ∧ firstOf (xs.drop k) = firstOf xs) (fun i => xs.length - (intOf i).toNat)
  case atStart => exact ⟨0, Nat.zero_le _, rfl, rfl⟩
  case round =>
    obtain ⟨k, hk, rfl, hf⟩ := hrel
    by_cases hlt : k < xs.length
    · have hcell := hc k hlt
      have hd := firstOf_drop xs k hlt
      generalize xs.getD k 0 = x at hcell hd
      have HD := Lib.hid hd
      have HF := Lib.hid hf
      clear hf hc hd
      by_cases hz : x = 0
      · subst hz
        go_wp2
        go_round
        case rel => exact ⟨k + 1, by omega, by go_num, by rw [← HF.out, HD.out, if_pos rfl]⟩
        case measure => simp [intOf]; omega
      · have HZ := Lib.hid hz
        have hz' : (x != 0) = true := by simpa using hz
        clear hz
        go_wp2
        go_ret
        exact ⟨ret_int (by rw [← HF.out, HD.out, if_neg HZ.out]), rfl⟩
    · have HF := Lib.hid hf
      clear hf
      go_wp2
      go_ret
      exact ⟨ret_int (by rw [← HF.out, List.drop_eq_nil_of_le (by omega)]; rfl), rfl⟩

end Go.Proofs.YtofcojcfcpfdmaaDoor
namespace Go.Proofs.YtofcojcfcpfdmaaDoor
open Go.RowKit
set_option linter.unusedSimpArgs false
set_option linter.unusedVariables false

/-- The first of two errors. -/
def orI (x y : Int) : Int := if x = 0 then y else x

theorem first2_any (b : Nat) (x y : Int) (w : World) (h0 : w.cell? ⟨b, 0, none⟩ = some (.int .i64 x)) (h1 : w.cell? ⟨b, 1, none⟩ = some (.int .i64 y)) :
    Calls Tryd.prog 6 #[.slice (some ⟨b, 0, none⟩) 2 2] w fun r w' => r = .returned (.int .i64 (orI x y)) ∧ w = w' := by
  refine (first_any b [x, y] w (by simp) ?_).mono ?_
  · intro j hj
    match j, hj with
    | 0, _ => exact h0
    | 1, _ => exact h1
  · rintro e w' ⟨rfl, rfl⟩
    refine ⟨ret_int ?_, rfl⟩
    simp only [firstOf, orI]
    by_cases hx : x = 0
    · by_cases hy : y = 0 <;> simp [hx, hy]
    · simp [hx]

theorem first2_new (x y : Int) (w : World) :
    Calls Tryd.prog 6 #[.slice (some ⟨w.heap.size, 0, none⟩) 2 2] (w.alloc (.cells #[.int .i64 x, .int .i64 y] 25)) fun r w' => r = .returned (.int .i64 (orI x y)) ∧ w.alloc (.cells #[.int .i64 x, .int .i64 y] 25) = w' :=
  first2_any _ x y _ (by rw [World.cell?_alloc_at _ _ _ _ rfl]; rfl) (by rw [World.cell?_alloc_at _ _ _ _ rfl]; rfl)

theorem new_below (w : World) (o : Obj) : Below w.heap.size w (w.alloc o) := (Below.refl _ _).alloc (Nat.le_refl _) _
theorem below_step {w a b : World} (h : Below w.heap.size w a) (k : Below a.heap.size a b) : Below w.heap.size w b := h.trans (k.mono h.size)
theorem below_alloc {w a : World} (h : Below w.heap.size w a) (o : Obj) : Below w.heap.size w (a.alloc o) := h.alloc h.size o

theorem sizeError_any (a b : Int) (w : World) : Calls Tryd.prog 25 #[.int .i64 a, .int .i64 b] w fun r w' => r = .returned (.int .i64 (sizeErr a b)) ∧ Below w.heap.size w w' := by
  by_cases h1 : 1 ≤ a ∧ a ≤ 4000
  · obtain ⟨h1, h2⟩ := h1
    by_cases h3 : 1 ≤ b ∧ b ≤ 4000
    · obtain ⟨h3, h4⟩ := h3
      have hm := mul_small h1 h3 h2 h4
      have hw : wrap64 (a * b) = a * b := by unfold wrap64; omega
      by_cases h5 : 1048576 < a * b
      · have HS := Lib.hid (show sizeErr a b = 4 by unfold sizeErr; rw [if_neg (by omega), if_pos h5])
        go_enter Tryd.func25, Tryd.ntmps25
        go_wp2_with (first | (go_at_call 58; refine (in_any _ _ _ _).mono ?_; rintro e w' ⟨rfl, rfl⟩) | (go_at_call 8; refine (when_any _ _ _).mono ?_; rintro e w' ⟨rfl, rfl⟩) | (go_at_call 6; refine (first2_new _ _ _).mono ?_; rintro e w' ⟨rfl, rfl⟩))
        go_ret
        exact ⟨ret_int (by rw [HS.out]; rfl), new_below _ _⟩
      · have HS := Lib.hid (show sizeErr a b = 0 by unfold sizeErr; rw [if_neg (by omega), if_neg (by omega)])
        go_enter Tryd.func25, Tryd.ntmps25
        go_wp2_with (first | (go_at_call 58; refine (in_any _ _ _ _).mono ?_; rintro e w' ⟨rfl, rfl⟩) | (go_at_call 8; refine (when_any _ _ _).mono ?_; rintro e w' ⟨rfl, rfl⟩) | (go_at_call 6; refine (first2_new _ _ _).mono ?_; rintro e w' ⟨rfl, rfl⟩))
        go_ret
        exact ⟨ret_int (by rw [HS.out, show decide (1048576 < a * b) = false from decide_eq_false (by omega)]; rfl), new_below _ _⟩
    · have h1d : decide (1 ≤ a ∧ a ≤ 4000) = true := by simp; omega
      have h3d : decide (1 ≤ b ∧ b ≤ 4000) = false := by simp; omega
      have HS := Lib.hid (show sizeErr a b = 3 by unfold sizeErr; rw [if_pos (by omega)])
      clear h3
      go_enter Tryd.func25, Tryd.ntmps25
      go_wp2_with (first | (go_at_call 58; refine (in_any _ _ _ _).mono ?_; rintro e w' ⟨rfl, rfl⟩) | (go_at_call 8; refine (when_any _ _ _).mono ?_; rintro e w' ⟨rfl, rfl⟩) | (go_at_call 6; refine (first2_new _ _ _).mono ?_; rintro e w' ⟨rfl, rfl⟩))
      go_ret
      exact ⟨ret_int (by rw [HS.out]; rfl), new_below _ _⟩
  · have h1d : decide (1 ≤ a ∧ a ≤ 4000) = false := by simp; omega
    have HS := Lib.hid (show sizeErr a b = 3 by unfold sizeErr; rw [if_pos (by omega)])
    clear h1
    go_enter Tryd.func25, Tryd.ntmps25
    go_wp2_with (first | (go_at_call 58; refine (in_any _ _ _ _).mono ?_; rintro e w' ⟨rfl, rfl⟩) | (go_at_call 8; refine (when_any _ _ _).mono ?_; rintro e w' ⟨rfl, rfl⟩) | (go_at_call 6; refine (first2_new _ _ _).mono ?_; rintro e w' ⟨rfl, rfl⟩))
    go_ret
    exact ⟨ret_int (by rw [HS.out]; rfl), new_below _ _⟩

theorem sizeErr_zero {a b : Int} (h : sizeErr a b = 0) : (1 ≤ a ∧ a ≤ 4000 ∧ 1 ≤ b ∧ b ≤ 4000) ∧ 0 ≤ a * b ∧ a * b ≤ 1048576 := by
  unfold sizeErr at h
  split at h
  · simp at h
  · split at h
    · simp at h
    · have := mul_small (by omega : 1 ≤ a) (by omega : 1 ≤ b) (by omega) (by omega)
      omega

/-- The error of a page: of its size, else of the number of its pixels. -/
def pageErr (a b : Int) (n : Nat) : Int := if sizeErr a b = 0 then (if (n : Int) = a * b then 0 else 2) else sizeErr a b

theorem check_any (a b : Int) (n : Nat) (w : World) : Calls Tryd.prog 57 #[.int .i64 a, .int .i64 b, .int .i64 n] w fun r w' => r = .returned (.int .i64 (pageErr a b n)) ∧ w = w' := by
  by_cases h : sizeErr a b = 0
  · have hz := sizeErr_zero h
    have H := Lib.hid h
    have hs : pageErr a b n = if (n : Int) = a * b then 0 else 2 := by unfold pageErr; rw [if_pos h]
    have HS := Lib.hid hs
    have hw : wrap64 (a * b) = a * b := by unfold wrap64; omega
    by_cases h2 : (n : Int) = a * b
    · have h2' : ((n : Int) != a * b) = false := by simpa using h2
      have H2 := Lib.hid h2
      clear h2 hs
      go_enter Tryd.func57, Tryd.ntmps57
      go_wp2_with ((go_at_call 59; refine (checkSize_any _ _ _).mono ?_; rintro e w' ⟨rfl, rfl⟩))
      go_ret
      exact ⟨ret_int (by rw [HS.out, if_pos H2.out]), rfl⟩
    · have h2' : ((n : Int) != a * b) = true := by simpa using h2
      have H2 := Lib.hid h2
      clear h2 hs
      go_enter Tryd.func57, Tryd.ntmps57
      go_wp2_with ((go_at_call 59; refine (checkSize_any _ _ _).mono ?_; rintro e w' ⟨rfl, rfl⟩))
      go_ret
      exact ⟨ret_int (by rw [HS.out, if_neg H2.out]), rfl⟩
  · have h' : (sizeErr a b != 0) = true := by simpa using h
    have H := Lib.hid h
    clear h
    go_enter Tryd.func57, Tryd.ntmps57
    go_wp2_with ((go_at_call 59; refine (checkSize_any _ _ _).mono ?_; rintro e w' ⟨rfl, rfl⟩))
    go_ret
    exact ⟨ret_int (by unfold pageErr; rw [if_neg H.out]), rfl⟩

theorem checkGray_any (a b : Int) (p : Option Addr) (n c : Nat) (w : World) : Calls Tryd.prog 42 #[.agg #[.int .i64 a, .int .i64 b, .slice p n c]] w fun r w' => r = .returned (.int .i64 (pageErr a b n)) ∧ w.alloc (.cells #[.int .i64 a, .int .i64 b, .slice p n c] 39) = w' := by
  go_enter Tryd.func42, Tryd.ntmps42
  go_wp2_with ((go_at_call 57; refine (check_any _ _ _ _).mono ?_; rintro e w' ⟨rfl, rfl⟩))
  go_ret
  exact ⟨rfl, rfl⟩

theorem checkBits_any (a b : Int) (p : Option Addr) (n c : Nat) (w : World) : Calls Tryd.prog 22 #[.agg #[.int .i64 a, .int .i64 b, .slice p n c]] w fun r w' => r = .returned (.int .i64 (pageErr a b n)) ∧ w.alloc (.cells #[.int .i64 a, .int .i64 b, .slice p n c] 24) = w' := by
  go_enter Tryd.func22, Tryd.ntmps22
  go_wp2_with ((go_at_call 57; refine (check_any _ _ _ _).mono ?_; rintro e w' ⟨rfl, rfl⟩))
  go_ret
  exact ⟨rfl, rfl⟩

end Go.Proofs.YtofcojcfcpfdmaaDoor
namespace Go.Proofs.YtofcojcfcpfdmaaDoor
open Go.RowKit
set_option linter.unusedSimpArgs false
set_option linter.unusedVariables false

theorem mul_wrap_zero {a b : Int} (h : sizeErr a b = 0) : IntKind.i64.wrap (a * b) = a * b := by
  have := sizeErr_zero h
  exact IntWalk.i64_in _ (by omega)

theorem err_shape (a b : Int) (n : Nat) : orI (sizeErr a b) (whenI ((n : Int) != IntKind.i64.wrap (a * b)) 2) = pageErr a b n := by
  unfold orI whenI pageErr
  by_cases h : sizeErr a b = 0
  · rw [mul_wrap_zero h, if_pos h, if_pos h]
    by_cases h2 : (n : Int) = a * b
    · rw [if_pos h2, if_neg (by simpa using h2)]
    · rw [if_neg h2, if_pos (by simpa using h2)]
  · rw [if_neg h, if_neg h]

set_option maxRecDepth 100000 in
theorem grayError_any (a b : Int) (p : Option Addr) (n c : Nat) (w : World) :
    Calls Tryd.prog 15 #[.agg #[.int .i64 a, .int .i64 b, .slice p n c]] w fun r w' => r = .returned (.int .i64 (pageErr a b n)) ∧ Below w.heap.size w w' := by
  go_enter Tryd.func15, Tryd.ntmps15
  go_wp2
  go_region_held3 (fun w' => w'.cell? ⟨w.heap.size, 0, none⟩ = some (.int .i64 a) ∧ w'.cell? ⟨w.heap.size, 1, none⟩ = some (.int .i64 b) ∧ w'.cell? ⟨w.heap.size, 2, none⟩ = some (.slice p n c)) (first | go_keep | (go_split_ands; exact ⟨cell_later hb (by assumption), cell_later hb (by assumption), cell_later hb (by assumption)⟩)) ((first | (go_at_call 25; refine (sizeError_any _ _ _).mono ?_; rintro e w' ⟨rfl, hb⟩) | (go_at_call 8; refine (when_any _ _ _).mono ?_; rintro e w' ⟨rfl, rfl⟩) | (go_at_call 6; refine (first2_new _ _ _).mono ?_; rintro e w' ⟨rfl, rfl⟩)))
  go_wp2
  go_ret
  exact ⟨ret_int (err_shape a b n), below_alloc (below_step (new_below _ _).drew hb) _⟩

set_option maxRecDepth 100000 in
theorem bitsError_any (a b : Int) (p : Option Addr) (n c : Nat) (w : World) :
    Calls Tryd.prog 7 #[.agg #[.int .i64 a, .int .i64 b, .slice p n c]] w fun r w' => r = .returned (.int .i64 (pageErr a b n)) ∧ Below w.heap.size w w' := by
  go_enter Tryd.func7, Tryd.ntmps7
  go_wp2
  go_region_held3 (fun w' => w'.cell? ⟨w.heap.size, 0, none⟩ = some (.int .i64 a) ∧ w'.cell? ⟨w.heap.size, 1, none⟩ = some (.int .i64 b) ∧ w'.cell? ⟨w.heap.size, 2, none⟩ = some (.slice p n c)) (first | go_keep | (go_split_ands; exact ⟨cell_later hb (by assumption), cell_later hb (by assumption), cell_later hb (by assumption)⟩)) ((first | (go_at_call 25; refine (sizeError_any _ _ _).mono ?_; rintro e w' ⟨rfl, hb⟩) | (go_at_call 8; refine (when_any _ _ _).mono ?_; rintro e w' ⟨rfl, rfl⟩) | (go_at_call 6; refine (first2_new _ _ _).mono ?_; rintro e w' ⟨rfl, rfl⟩)))
  go_wp2
  go_ret
  exact ⟨ret_int (err_shape a b n), below_alloc (below_step (new_below _ _).drew hb) _⟩

end Go.Proofs.YtofcojcfcpfdmaaDoor
namespace Go.Proofs.YtofcojcfcpfdmaaDoor
open Go.RowKit
set_option linter.unusedSimpArgs false
set_option linter.unusedVariables false

theorem block3 {w : World} {b : Nat} {x y z : Value} {t : TypeId} (h : w.heap[b]? = some (.cells #[x, y, z] t (0, 0))) :
    w.cell? ⟨b, 0, none⟩ = some x ∧ w.cell? ⟨b, 1, none⟩ = some y ∧ w.cell? ⟨b, 2, none⟩ = some z ∧ w.frozen? ⟨b, 0, none⟩ = false ∧ w.frozen? ⟨b, 1, none⟩ = false ∧ w.frozen? ⟨b, 2, none⟩ = false :=
  ⟨by rw [cell_of_row w b 0 _ t (0, 0) h]; rfl, by rw [cell_of_row w b 1 _ t (0, 0) h]; rfl, by rw [cell_of_row w b 2 _ t (0, 0) h]; rfl, frozen_of_row w b 0 _ t h, frozen_of_row w b 1 _ t h, frozen_of_row w b 2 _ t h⟩

theorem below_block {w w' : World} {b : Nat} {o : Obj} (hb : Below w.heap.size w w') (h : w.heap[b]? = some o) : w'.heap[b]? = some o :=
  (hb.block b (Array.getElem?_eq_some_iff.1 h).1).trans h
theorem below_far3 {w a : World} {B b : Nat} {x y z : Value} (h : Below B w a) (hb : B ≤ b) : Below B w (((a.setCell ⟨b, 0, none⟩ x).setCell ⟨b, 1, none⟩ y).setCell ⟨b, 2, none⟩ z) := ((h.setCell hb _).setCell hb _).setCell hb _

end Go.Proofs.YtofcojcfcpfdmaaDoor
namespace Go.Proofs.YtofcojcfcpfdmaaDoor
open Go.RowKit
set_option linter.unusedSimpArgs false
set_option linter.unusedVariables false

theorem histErr (a b : Int) (p : Option Addr) (n c : Nat) (w : World) (h : pageErr a b n ≠ 0) :
    Calls Tryd.prog 38 #[.agg #[.int .i64 a, .int .i64 b, .slice p n c]] w fun e w' => e = .returned (.tuple #[.slice none 0 0, .int .i64 (pageErr a b n)]) ∧ Below w.heap.size w w' := by
  have h' : (pageErr a b n != 0) = true := by simpa using h
  clear h
  go_enter Tryd.func38, Tryd.ntmps38
  go_wp2_with ((go_at_call 42; refine (checkGray_any _ _ _ _ _ _).mono ?_; rintro e w' ⟨rfl, rfl⟩))
  go_ret2
  exact ⟨rfl, below_alloc (new_below _ _) _⟩

theorem levelErr (a b : Int) (p : Option Addr) (n c : Nat) (w : World) (h : pageErr a b n ≠ 0) :
    Calls Tryd.prog 16 #[.agg #[.int .i64 a, .int .i64 b, .slice p n c]] w fun e w' => e = .returned (.tuple #[.int .i64 0, .int .i64 (pageErr a b n)]) ∧ Below w.heap.size w w' := by
  have h' : (pageErr a b n != 0) = true := by simpa using h
  have H := Lib.hid h
  clear h
  go_enter Tryd.func16, Tryd.ntmps16
  go_wp2_with (go_at_call 38; refine (histErr _ _ _ _ _ _ H.out).mono ?_; rintro e w1 ⟨rfl, hb⟩)
  go_ret2
  exact ⟨rfl, below_step (new_below _ _) hb⟩

theorem localErr (a b r part : Int) (p : Option Addr) (n c : Nat) (w : World) (h : pageErr a b n ≠ 0) :
    Calls Tryd.prog 17 #[.agg #[.int .i64 a, .int .i64 b, .slice p n c], .int .i64 r, .int .i64 part] w fun e w' => e = .returned (.tuple #[.agg #[.int .i64 0, .int .i64 0, .slice none 0 0], .int .i64 (pageErr a b n)]) ∧ Below w.heap.size w w' := by
  have h' : (pageErr a b n != 0) = true := by simpa using h
  clear h
  go_enter Tryd.func17, Tryd.ntmps17
  go_wp2_with ((go_at_call 42; refine (checkGray_any _ _ _ _ _ _).mono ?_; rintro e w' ⟨rfl, rfl⟩))
  refine bodyPost_ret (v := .tuple #[.agg #[.int .i64 0, .int .i64 0, .slice none 0 0], .int .i64 (pageErr a b n)]) (by simp [results, Tryd.results17, go_sem]) rfl ⟨rfl, below_alloc (below_alloc (below_alloc (new_below _ _) _) _) _⟩

theorem evenErr (a b r : Int) (p : Option Addr) (n c : Nat) (w : World) (h : pageErr a b n ≠ 0) :
    Calls Tryd.prog 18 #[.agg #[.int .i64 a, .int .i64 b, .slice p n c], .int .i64 r] w fun e w' => e = .returned (.tuple #[.agg #[.int .i64 0, .int .i64 0, .slice none 0 0], .int .i64 (pageErr a b n)]) ∧ Below w.heap.size w w' := by
  have h' : (pageErr a b n != 0) = true := by simpa using h
  clear h
  go_enter Tryd.func18, Tryd.ntmps18
  go_wp2_with ((go_at_call 42; refine (checkGray_any _ _ _ _ _ _).mono ?_; rintro e w' ⟨rfl, rfl⟩))
  refine bodyPost_ret (v := .tuple #[.agg #[.int .i64 0, .int .i64 0, .slice none 0 0], .int .i64 (pageErr a b n)]) (by simp [results, Tryd.results18, go_sem]) rfl ⟨rfl, below_alloc (below_alloc (below_alloc (new_below _ _) _) _) _⟩

theorem strokesErr (a b : Int) (p : Option Addr) (n c : Nat) (w : World) (h : pageErr a b n ≠ 0) :
    Calls Tryd.prog 20 #[.agg #[.int .i64 a, .int .i64 b, .slice p n c]] w fun e w' => e = .returned (.tuple #[.int .i64 0, .int .i64 (pageErr a b n)]) ∧ Below w.heap.size w w' := by
  have h' : (pageErr a b n != 0) = true := by simpa using h
  clear h
  go_enter Tryd.func20, Tryd.ntmps20
  go_wp2_with ((go_at_call 22; refine (checkBits_any _ _ _ _ _ _).mono ?_; rintro e w' ⟨rfl, rfl⟩))
  go_ret2
  exact ⟨rfl, below_alloc (new_below _ _) _⟩

theorem changeErr (a b most : Int) (ink : Bool) (f : Nat) (capt : Array Value) (p : Option Addr) (n c : Nat) (w : World) (h : pageErr a b n ≠ 0) :
    Calls Tryd.prog 50 #[.agg #[.int .i64 a, .int .i64 b, .slice p n c], .int .i64 most, .bool ink, .func (.func f) #[] capt] w fun e w' => e = .returned (.tuple #[.agg #[.int .i64 0, .int .i64 0, .slice none 0 0], .int .i64 0, .int .i64 (pageErr a b n)]) ∧ Below w.heap.size w w' := by
  have h' : (pageErr a b n != 0) = true := by simpa using h
  clear h
  go_enter Tryd.func50, Tryd.ntmps50
  go_wp2_with ((go_at_call 22; refine (checkBits_any _ _ _ _ _ _).mono ?_; rintro e w' ⟨rfl, rfl⟩))
  refine bodyPost_ret (v := .tuple #[.agg #[.int .i64 0, .int .i64 0, .slice none 0 0], .int .i64 0, .int .i64 (pageErr a b n)]) (by simp [results, Tryd.results50, go_sem]) rfl ⟨rfl, below_alloc (below_alloc (below_alloc (below_alloc (new_below _ _) _) _) _) _⟩

theorem inkErr (a b r least : Int) (p : Option Addr) (n c : Nat) (w : World) (h : pageErr a b n ≠ 0) :
    Calls Tryd.prog 56 #[.agg #[.int .i64 a, .int .i64 b, .slice p n c], .int .i64 r, .int .i64 least] w fun e w' => e = .returned (.tuple #[.agg #[.int .i64 0, .int .i64 0, .slice none 0 0], .int .i64 (pageErr a b n)]) ∧ Below w.heap.size w w' := by
  have h' : (pageErr a b n != 0) = true := by simpa using h
  clear h
  go_enter Tryd.func56, Tryd.ntmps56
  go_wp2_with ((go_at_call 22; refine (checkBits_any _ _ _ _ _ _).mono ?_; rintro e w' ⟨rfl, rfl⟩))
  refine bodyPost_ret (v := .tuple #[.agg #[.int .i64 0, .int .i64 0, .slice none 0 0], .int .i64 (pageErr a b n)]) (by simp [results, Tryd.results56, go_sem]) rfl ⟨rfl, below_alloc (below_alloc (below_alloc (new_below _ _) _) _) _⟩

theorem spreadErr (a b r : Int) (p : Option Addr) (n c : Nat) (w : World) (h : pageErr a b n ≠ 0) :
    Calls Tryd.prog 21 #[.agg #[.int .i64 a, .int .i64 b, .slice p n c], .int .i64 r] w fun e w' => e = .returned (.tuple #[.agg #[.int .i64 0, .int .i64 0, .slice none 0 0], .int .i64 (pageErr a b n)]) ∧ Below w.heap.size w w' := by
  have HP := Lib.hid h
  clear h
  go_enter Tryd.func21, Tryd.ntmps21
  go_wp2_with fail
  obtain ⟨w1, hw1⟩ : ∃ w1, w1 = ((w.alloc (.cells #[.int .i64 a, .int .i64 b, .slice p n c] 24)).alloc (.cells #[.int .i64 0, .int .i64 0, .slice none 0 0] 24)) := ⟨_, rfl⟩
  have B1 : Below w.heap.size w w1 := by rw [hw1]; exact below_alloc (new_below _ _) _
  have qb : w1.heap[w.heap.size + 1]? = some (.cells #[.int .i64 0, .int .i64 0, .slice none 0 0] 24 (0, 0)) := by
    rw [hw1]
    simpa using heap_alloc_new (w.alloc (.cells #[.int .i64 a, .int .i64 b, .slice p n c] 24)) (.cells #[.int .i64 0, .int .i64 0, .slice none 0 0] 24)
  rw [← hw1]
  clear hw1
  refine (inkErr a b r _ p n c w1 HP.out).mono ?_
  rintro e w2 ⟨rfl, hb⟩
  obtain ⟨j0, j1, j2, r0, r1, r2⟩ := block3 (below_block hb qb)
  have hl := (Array.getElem?_eq_some_iff.1 (below_block hb qb)).1
  have G := Lib.hid hb
  have B := Lib.hid B1
  clear hb qb B1
  go_wp2_with fail
  refine bodyPost_ret (v := .tuple #[.agg #[.int .i64 0, .int .i64 0, .slice none 0 0], .int .i64 (pageErr a b n)]) (by simp [results, Tryd.results21, go_sem, j0, j1, j2]) rfl ⟨rfl, below_far3 (below_step B.out G.out) (by omega)⟩

theorem specksErr (a b r : Int) (p : Option Addr) (n c : Nat) (w : World) (h : pageErr a b n ≠ 0) :
    Calls Tryd.prog 19 #[.agg #[.int .i64 a, .int .i64 b, .slice p n c], .int .i64 r] w fun e w' => e = .returned (.tuple #[.agg #[.int .i64 0, .int .i64 0, .slice none 0 0], .int .i64 0, .int .i64 (pageErr a b n)]) ∧ Below w.heap.size w w' := by
  have hmf : ∀ (fn : Fn) (first cap : Array Value) (w : World), (Instr.makeFunc fn first cap).run Tryd.prog w = .ok (.func fn first cap) w := fun _ _ _ _ => rfl
  have HP := Lib.hid h
  clear h
  go_enter Tryd.func19, Tryd.ntmps19
  go_wp2_with fail
  obtain ⟨w1, hw1⟩ : ∃ w1, w1 = ((w.alloc (.cells #[.int .i64 a, .int .i64 b, .slice p n c] 24)).alloc (.cells #[.int .i64 r] 3)).alloc (.cells #[.int .i64 0, .int .i64 0, .slice none 0 0] 24) := ⟨_, rfl⟩
  have B1 : Below w.heap.size w w1 := by rw [hw1]; exact below_alloc (below_alloc (new_below _ _) _) _
  have qb : w1.heap[w.heap.size + 1 + 1]? = some (.cells #[.int .i64 0, .int .i64 0, .slice none 0 0] 24 (0, 0)) := by
    rw [hw1]
    simpa using heap_alloc_new ((w.alloc (.cells #[.int .i64 a, .int .i64 b, .slice p n c] 24)).alloc (.cells #[.int .i64 r] 3)) (.cells #[.int .i64 0, .int .i64 0, .slice none 0 0] 24)
  rw [← hw1]
  clear hw1
  refine (changeErr a b r _ _ _ p n c w1 HP.out).mono ?_
  rintro e w2 ⟨rfl, hb⟩
  obtain ⟨j0, j1, j2, r0, r1, r2⟩ := block3 (below_block hb qb)
  have hl := (Array.getElem?_eq_some_iff.1 (below_block hb qb)).1
  have G := Lib.hid hb
  have B := Lib.hid B1
  clear hb qb B1
  go_wp2_with fail
  refine bodyPost_ret (v := .tuple #[.agg #[.int .i64 0, .int .i64 0, .slice none 0 0], .int .i64 0, .int .i64 (pageErr a b n)]) (by simp [results, Tryd.results19, go_sem, j0, j1, j2]) rfl ⟨rfl, below_far3 (below_step B.out G.out) (by omega)⟩

end Go.Proofs.YtofcojcfcpfdmaaDoor
namespace Go.Proofs.YtofcojcfcpfdmaaDoor
open Go.RowKit
set_option linter.unusedSimpArgs false
set_option linter.unusedVariables false

def smB (c : Int) : Bool := decide (97 ≤ c ∧ c ≤ 122)
def dgB (c : Int) : Bool := decide (48 ≤ c ∧ c ≤ 57)

theorem isSmall_any (c : Int) (w : World) : Calls Tryd.prog 70 #[.int .u8 c] w fun e w' => e = .returned (.bool (smB c)) ∧ w = w' := by
  by_cases h1 : 97 ≤ c
  · by_cases h2 : c ≤ 122
    · have H := Lib.hid (show smB c = true from decide_eq_true ⟨h1, h2⟩)
      go_enter Tryd.func70, Tryd.ntmps70
      go_wp2
      go_ret
      exact ⟨ret_bool H.out.symm, rfl⟩
    · have H := Lib.hid (show smB c = false from decide_eq_false (fun k => h2 k.2))
      go_enter Tryd.func70, Tryd.ntmps70
      go_wp2
      go_ret
      exact ⟨ret_bool H.out.symm, rfl⟩
  · have H := Lib.hid (show smB c = false from decide_eq_false (fun k => h1 k.1))
    go_enter Tryd.func70, Tryd.ntmps70
    go_wp2
    go_ret
    exact ⟨ret_bool H.out.symm, rfl⟩

theorem isDigit_any (c : Int) (w : World) : Calls Tryd.prog 71 #[.int .u8 c] w fun e w' => e = .returned (.bool (dgB c)) ∧ w = w' := by
  by_cases h1 : 48 ≤ c
  · by_cases h2 : c ≤ 57
    · have H := Lib.hid (show dgB c = true from decide_eq_true ⟨h1, h2⟩)
      go_enter Tryd.func71, Tryd.ntmps71
      go_wp2
      go_ret
      exact ⟨ret_bool H.out.symm, rfl⟩
    · have H := Lib.hid (show dgB c = false from decide_eq_false (fun k => h2 k.2))
      go_enter Tryd.func71, Tryd.ntmps71
      go_wp2
      go_ret
      exact ⟨ret_bool H.out.symm, rfl⟩
  · have H := Lib.hid (show dgB c = false from decide_eq_false (fun k => h1 k.1))
    go_enter Tryd.func71, Tryd.ntmps71
    go_wp2
    go_ret
    exact ⟨ret_bool H.out.symm, rfl⟩

/-- The byte at a place, as a number. -/
def byteAt (s : ByteArray) (k : Nat) : Int := ((s.data.toList.getD k 0).toNat : Int)
theorem byteAt_get (s : ByteArray) (k : Nat) (h : k < s.size) : (s[k].toNat : Int) = byteAt s k := by
  unfold byteAt
  rw [List.getD_eq_getElem?_getD, List.getElem?_eq_getElem (by simpa using h)]
  rfl

def goodB (s : ByteArray) (k : Nat) : Bool := smB (byteAt s k) || (decide (k ≠ 0) && (dgB (byteAt s k) || decide (byteAt s k = 45)))
def NameP (s : ByteArray) : Prop := (1 ≤ s.size ∧ s.size ≤ 40) ∧ ∀ k, k < s.size → goodB s k = true

/-- It returns a bool that says whether P. -/
def SaysIf (P : Prop) (w : World) (e : Ending) (w' : World) : Prop := ∃ q, e = .returned (.bool q) ∧ (q = true ↔ P) ∧ w = w'
theorem says_no {P : Prop} {w : World} (h : ¬ P) : SaysIf P w (.returned (.bool false)) w := ⟨false, rfl, by simp [h], rfl⟩
theorem says_yes {P : Prop} {w : World} (h : P) : SaysIf P w (.returned (.bool true)) w := ⟨true, rfl, by simp [h], rfl⟩

theorem good_next {s : ByteArray} {k : Nat} (h : Hid (∀ j, j < k → goodB s j = true)) (hk : Hid (goodB s k = true)) : Hid (∀ j, j < k + 1 → goodB s j = true) :=
  Lib.hid fun j hj => by
    by_cases e : j = k
    · rw [e]; exact hk.out
    · exact h.out j (by omega)

set_option maxHeartbeats 400000 in
theorem isName_any (s : ByteArray) (w : World) (hs : s.size ≤ 9223372036854775807) : Calls Tryd.prog 37 #[.string s] w (SaysIf (NameP s) w) := by
  by_cases h1 : 1 ≤ s.size
  · by_cases h2 : s.size ≤ 40
    · have d1 : decide ((s.size : Int) < 1) = false := by simp; omega
      have d2 : decide ((40 : Int) < (s.size : Int)) = false := by simp; omega
      have hlt0 : 0 < s.size := by omega
      have E0 := Lib.hid (byteAt_get s 0 hlt0)
      by_cases hb : smB (s[0].toNat : Int) = true
      · have HB := Lib.hid (show smB (byteAt s 0) = true by rw [← E0.out]; exact hb)
        have H1 := Lib.hid h1
        have H2 := Lib.hid h2
        clear h1 h2
        go_enter Tryd.func37, Tryd.ntmps37
        go_wp2_with (first | (go_at_call 70; refine (isSmall_any _ _).mono ?_; rintro e w' ⟨rfl, rfl⟩) | (go_at_call 71; refine (isDigit_any _ _).mono ?_; rintro e w' ⟨rfl, rfl⟩))
        clear hb
        go_loop [21] (fun i => ∃ k : Nat, k ≤ s.size ∧ i = .int .i64 k ∧ Hid (∀ j, j < k → goodB s j = true)) (fun i => s.size - (intOf i).toNat)
        case atStart => exact ⟨0, Nat.zero_le _, rfl, fun j hj => by omega⟩
        case round =>
          obtain ⟨k, hk, rfl, hG⟩ := hrel
          by_cases hlt : k < s.size
          · have E := Lib.hid (byteAt_get s k hlt)
            by_cases a1 : smB (s[k].toNat : Int) = true
            · have hg := Lib.hid (show goodB s k = true by unfold goodB; rw [← E.out, a1]; rfl)
              go_wp2_with (first | (go_at_call 70; refine (isSmall_any _ _).mono ?_; rintro e w' ⟨rfl, rfl⟩) | (go_at_call 71; refine (isDigit_any _ _).mono ?_; rintro e w' ⟨rfl, rfl⟩))
              go_round
              case rel => exact ⟨k + 1, by omega, by go_num, good_next hG hg⟩
              case measure => simp [intOf]; omega
            · have a1' : smB (s[k].toNat : Int) = false := by simpa using a1
              have K0 := Lib.hid (show k ≠ 0 from fun e => a1 (by subst e; rw [E.out]; exact HB.out))
              clear a1
              by_cases a2 : dgB (s[k].toNat : Int) = true
              · have hg := Lib.hid (show goodB s k = true by unfold goodB; rw [← E.out, a1', a2]; simp [K0.out])
                go_wp2_with (first | (go_at_call 70; refine (isSmall_any _ _).mono ?_; rintro e w' ⟨rfl, rfl⟩) | (go_at_call 71; refine (isDigit_any _ _).mono ?_; rintro e w' ⟨rfl, rfl⟩))
                go_round
                case rel => exact ⟨k + 1, by omega, by go_num, good_next hG hg⟩
                case measure => simp [intOf]; omega
              · have a2' : dgB (s[k].toNat : Int) = false := by simpa using a2
                clear a2
                by_cases a3 : (s[k].toNat : Int) = 45
                · have a3' : ((s[k].toNat : Int) != 45) = false := by simpa using a3
                  have hg := Lib.hid (show goodB s k = true by unfold goodB; rw [← E.out, a1', a2']; simp [K0.out]; omega)
                  clear a3
                  go_wp2_with (first | (go_at_call 70; refine (isSmall_any _ _).mono ?_; rintro e w' ⟨rfl, rfl⟩) | (go_at_call 71; refine (isDigit_any _ _).mono ?_; rintro e w' ⟨rfl, rfl⟩))
                  go_round
                  case rel => exact ⟨k + 1, by omega, by go_num, good_next hG hg⟩
                  case measure => simp [intOf]; omega
                · have a3' : ((s[k].toNat : Int) != 45) = true := by simpa using a3
                  have hg := Lib.hid (show goodB s k = false by unfold goodB; rw [← E.out, a1', a2']; simp; omega)
                  clear a3
                  go_wp2_with (first | (go_at_call 70; refine (isSmall_any _ _).mono ?_; rintro e w' ⟨rfl, rfl⟩) | (go_at_call 71; refine (isDigit_any _ _).mono ?_; rintro e w' ⟨rfl, rfl⟩))
                  go_ret
                  exact says_no (fun hP => by have := hP.2 k hlt; rw [hg.out] at this; cases this)
          · go_wp2_with (first | (go_at_call 70; refine (isSmall_any _ _).mono ?_; rintro e w' ⟨rfl, rfl⟩) | (go_at_call 71; refine (isDigit_any _ _).mono ?_; rintro e w' ⟨rfl, rfl⟩))
            go_ret
            exact says_yes ⟨⟨H1.out, H2.out⟩, fun j hj => hG.out j (by omega)⟩
      · have hb' : smB (s[0].toNat : Int) = false := by simpa using hb
        have HB := Lib.hid (show goodB s 0 = false by unfold goodB; rw [← E0.out, hb']; rfl)
        clear hb
        go_enter Tryd.func37, Tryd.ntmps37
        go_wp2_with (first | (go_at_call 70; refine (isSmall_any _ _).mono ?_; rintro e w' ⟨rfl, rfl⟩) | (go_at_call 71; refine (isDigit_any _ _).mono ?_; rintro e w' ⟨rfl, rfl⟩))
        go_ret
        exact says_no (fun hP => by have := hP.2 0 hlt0; rw [HB.out] at this; cases this)
    · go_enter Tryd.func37, Tryd.ntmps37
      go_wp2_with (first | (go_at_call 70; refine (isSmall_any _ _).mono ?_; rintro e w' ⟨rfl, rfl⟩) | (go_at_call 71; refine (isDigit_any _ _).mono ?_; rintro e w' ⟨rfl, rfl⟩))
      go_ret
      exact says_no (fun hP => by have := hP.1; omega)
  · go_enter Tryd.func37, Tryd.ntmps37
    go_wp2_with (first | (go_at_call 70; refine (isSmall_any _ _).mono ?_; rintro e w' ⟨rfl, rfl⟩) | (go_at_call 71; refine (isDigit_any _ _).mono ?_; rintro e w' ⟨rfl, rfl⟩))
    go_ret
    exact says_no (fun hP => by have := hP.1; omega)

end Go.Proofs.YtofcojcfcpfdmaaDoor
namespace Go.Proofs.YtofcojcfcpfdmaaDoor
open Go.RowKit
set_option linter.unusedSimpArgs false
set_option linter.unusedVariables false

theorem landed_any (w : World) : Calls Tryd.prog 14 #[] w fun e w' => e = .returned (.bool true) ∧ w = w' := by
  go_enter Tryd.func14, Tryd.ntmps14
  go_wp2_with fail
  refine (isName_any _ _ (by decide)).mono ?_
  rintro e w1 ⟨b, rfl, hb, rfl⟩
  have hn : NameP ⟨#[97]⟩ := ⟨⟨by decide, by decide⟩, fun k hk => by
    obtain rfl : k = 0 := by have : (ByteArray.mk #[97]).size = 1 := rfl; omega
    decide⟩
  obtain rfl : b = true := hb.2 hn
  go_wp2_with fail
  go_ret
  exact ⟨rfl, rfl⟩

end Go.Proofs.YtofcojcfcpfdmaaDoor
namespace Go.Proofs.YtofcojcfcpfdmaaDoor
open Go.RowKit
set_option linter.unusedSimpArgs false
set_option linter.unusedVariables false

set_option maxHeartbeats 4000000 in
set_option maxRecDepth 100000 in
theorem pagesCheck_any (a1 b1 : Int) (s1 : Option Addr) (n1 c1 : Nat) (a2 b2 : Int) (s2 : Option Addr) (n2 c2 : Nat) (w : World) :
    Calls Tryd.prog 4 #[.agg #[.int .i64 a1, .int .i64 b1, .slice s1 n1 c1], .agg #[.int .i64 a2, .int .i64 b2, .slice s2 n2 c2]] w fun e w' => e = .returned (.bool true) ∧ Below w.heap.size w w' := by
  go_enter Tryd.func4, Tryd.ntmps4
  go_wp2_with ((go_at_call 14; refine (landed_any _).mono ?_; rintro e w' ⟨rfl, rfl⟩))
  obtain ⟨w1, hw1⟩ : ∃ w1, w1 = (w.alloc (.cells #[.int .i64 a1, .int .i64 b1, .slice s1 n1 c1] 39)).alloc (.cells #[.int .i64 a2, .int .i64 b2, .slice s2 n2 c2] 24) := ⟨_, rfl⟩
  have B1 : Below w.heap.size w w1 := by rw [hw1]; exact below_alloc (new_below _ _) _
  have q0 : w1.cell? ⟨w.heap.size, 0, none⟩ = some (.int .i64 a1) := by rw [hw1]; go_simp
  have q1 : w1.cell? ⟨w.heap.size, 1, none⟩ = some (.int .i64 b1) := by rw [hw1]; go_simp
  have q2 : w1.cell? ⟨w.heap.size, 2, none⟩ = some (.slice s1 n1 c1) := by rw [hw1]; go_simp
  have p0 : w1.cell? ⟨w.heap.size + 1, 0, none⟩ = some (.int .i64 a2) := by rw [hw1]; go_simp
  have p1 : w1.cell? ⟨w.heap.size + 1, 1, none⟩ = some (.int .i64 b2) := by rw [hw1]; go_simp
  have p2 : w1.cell? ⟨w.heap.size + 1, 2, none⟩ = some (.slice s2 n2 c2) := by rw [hw1]; go_simp
  rw [← hw1]
  clear hw1
  refine (grayError_any a1 b1 s1 n1 c1 w1).mono ?_
  rintro e w2 ⟨rfl, hb2⟩
  have k0 := cell_later hb2 q0
  have k1 := cell_later hb2 q1
  have k2 := cell_later hb2 q2
  have m0 := cell_later hb2 p0
  have m1 := cell_later hb2 p1
  have m2 := cell_later hb2 p2
  have B2 := below_step B1 hb2
  clear q0 q1 q2 p0 p1 p2 B1 hb2
  by_cases hg : pageErr a1 b1 n1 = 0
  · go_wp2_with fail
    obtain ⟨wz, rfl⟩ : ∃ wz : World, wz = w2 := ⟨_, rfl⟩
    have BZ := B2
    clear B2 hg k0 k1 k2
    have HZ := Lib.hid BZ
    clear BZ
    refine (bitsError_any a2 b2 s2 n2 c2 wz).mono ?_
    rintro e v1 ⟨rfl, hb1⟩
    have k0 := cell_later hb1 m0
    have k1 := cell_later hb1 m1
    have k2 := cell_later hb1 m2
    have HZ1 := Lib.hid (below_step HZ.out hb1)
    clear m0 m1 m2 hb1 HZ
    by_cases hb : pageErr a2 b2 n2 = 0
    · go_wp2_with fail
      go_ret
      exact ⟨rfl, HZ1.out⟩
    · have HB := Lib.hid hb
      have hb' : (pageErr a2 b2 n2 != 0) = true := by simpa using hb
      clear hb
      obtain ⟨E2, hE2⟩ : ∃ E, E = pageErr a2 b2 n2 := ⟨_, rfl⟩
      rw [← hE2] at hb' ⊢
      have HE2 := Lib.hid hE2
      clear hE2
      go_wp2_with fail
      refine (specksErr a2 b2 _ s2 n2 c2 v1 HB.out).mono ?_
      rintro e v2 ⟨rfl, hb2⟩
      have m0 := cell_later hb2 k0
      have m1 := cell_later hb2 k1
      have m2 := cell_later hb2 k2
      have lt := World.block_lt_of_cell? _ _ m0
      simp only at lt
      have HZ2 := Lib.hid (below_step HZ1.out hb2)
      clear k0 k1 k2 hb2 HZ1
      rw [← HE2.out]
      go_wp2_with fail
      obtain ⟨v3, hv3⟩ : ∃ v3, v3 = v2.alloc (.cells #[.int .i64 0, .int .i64 0, .slice none 0 0] 24) := ⟨_, rfl⟩
      have B3 : Below v2.heap.size v2 v3 := by rw [hv3]; exact new_below _ _
      obtain ⟨a0, a1', a2', _, _, _⟩ := block3 (w := v3) (b := v2.heap.size) (x := .int .i64 0) (y := .int .i64 0) (z := .slice none 0 0) (t := 24) (by rw [hv3]; exact heap_alloc_new _ _)
      have k0 := cell_later B3 m0
      have k1 := cell_later B3 m1
      have k2 := cell_later B3 m2
      have HZ3 := Lib.hid (below_step HZ2.out B3)
      rw [← hv3]
      clear hv3 m0 m1 m2 B3 HZ2 a0 a1'
      refine (strokesErr a2 b2 s2 n2 c2 v3 HB.out).mono ?_
      rintro e v4 ⟨rfl, hb4⟩
      have m0 := cell_later hb4 k0
      have m1 := cell_later hb4 k1
      have m2 := cell_later hb4 k2
      have e2 := cell_later hb4 a2'
      have HZ4 := Lib.hid (below_step HZ3.out hb4)
      clear k0 k1 k2 hb4 HZ3 a2'
      rw [← HE2.out]
      go_wp2_with fail
      refine (spreadErr a2 b2 _ s2 n2 c2 v4 HB.out).mono ?_
      rintro e v5 ⟨rfl, hb5⟩
      have f2 := cell_later hb5 e2
      have lf := World.block_lt_of_cell? _ _ f2
      simp only at lf
      have HZ5 := Lib.hid (below_step HZ4.out hb5)
      clear m0 m1 m2 hb5 HZ4 e2
      rw [← HE2.out]
      go_wp2_with fail
      go_ret
      exact ⟨rfl, below_alloc HZ5.out _⟩
  · have HG := Lib.hid hg
    have hg' : (pageErr a1 b1 n1 != 0) = true := by simpa using hg
    clear hg
    obtain ⟨E1, hE1⟩ : ∃ E, E = pageErr a1 b1 n1 := ⟨_, rfl⟩
    rw [← hE1] at hg' ⊢
    have HE1 := Lib.hid hE1
    have HB2 := Lib.hid B2
    clear hE1 B2
    go_wp2_with fail
    refine (levelErr a1 b1 s1 n1 c1 w2 HG.out).mono ?_
    rintro e w3 ⟨rfl, hb3⟩
    have q0 := cell_later hb3 k0
    have q1 := cell_later hb3 k1
    have q2 := cell_later hb3 k2
    have p0 := cell_later hb3 m0
    have p1 := cell_later hb3 m1
    have p2 := cell_later hb3 m2
    have HB3 := Lib.hid (below_step HB2.out hb3)
    clear k0 k1 k2 m0 m1 m2 hb3 HB2
    rw [← HE1.out]
    go_wp2_with fail
    refine (localErr a1 b1 _ _ s1 n1 c1 w3 HG.out).mono ?_
    rintro e w4 ⟨rfl, hb4⟩
    have k0 := cell_later hb4 q0
    have k1 := cell_later hb4 q1
    have k2 := cell_later hb4 q2
    have m0 := cell_later hb4 p0
    have m1 := cell_later hb4 p1
    have m2 := cell_later hb4 p2
    have l0 := World.block_lt_of_cell? _ _ k0
    simp only at l0
    have HB4 := Lib.hid (below_step HB3.out hb4)
    clear q0 q1 q2 p0 p1 p2 hb4 HB3
    rw [← HE1.out]
    go_wp2_with fail
    obtain ⟨w5, hw5⟩ : ∃ w5, w5 = w4.alloc (.cells #[.int .i64 0, .int .i64 0, .slice none 0 0] 24) := ⟨_, rfl⟩
    have B5 : Below w4.heap.size w4 w5 := by rw [hw5]; exact new_below _ _
    obtain ⟨_, _, x2, _, _, _⟩ := block3 (w := w5) (b := w4.heap.size) (x := .int .i64 0) (y := .int .i64 0) (z := .slice none 0 0) (t := 24) (by rw [hw5]; exact heap_alloc_new _ _)
    have q0 := cell_later B5 k0
    have q1 := cell_later B5 k1
    have q2 := cell_later B5 k2
    have p0 := cell_later B5 m0
    have p1 := cell_later B5 m1
    have p2 := cell_later B5 m2
    have HB5 := Lib.hid (below_step HB4.out B5)
    rw [← hw5]
    clear hw5 k0 k1 k2 m0 m1 m2 B5 HB4
    refine (evenErr a1 b1 _ s1 n1 c1 w5 HG.out).mono ?_
    rintro e w6 ⟨rfl, hb6⟩
    have k0 := cell_later hb6 q0
    have k1 := cell_later hb6 q1
    have k2 := cell_later hb6 q2
    have m0 := cell_later hb6 p0
    have m1 := cell_later hb6 p1
    have m2 := cell_later hb6 p2
    have y2 := cell_later hb6 x2
    have l1 := World.block_lt_of_cell? _ _ y2
    have l2 := World.block_lt_of_cell? _ _ m0
    simp only at l1 l2
    have HB6 := Lib.hid (below_step HB5.out hb6)
    clear q0 q1 q2 p0 p1 p2 hb6 HB5 x2
    rw [← HE1.out]
    go_wp2_with fail
    obtain ⟨wz, hwz⟩ : ∃ wz, wz = w6.alloc (.cells #[.int .i64 0, .int .i64 0, .slice none 0 0] 39) := ⟨_, rfl⟩
    have BB : Below w6.heap.size w6 wz := by rw [hwz]; exact new_below _ _
    have q0 := cell_later BB m0
    have q1 := cell_later BB m1
    have q2 := cell_later BB m2
    have BZ := below_step HB6.out BB
    rw [← hwz]
    clear hwz k0 k1 k2 m0 m1 m2 BB HB6 y2 l0 l1 l2
    have m0 := q0
    have m1 := q1
    have m2 := q2
    clear q0 q1 q2
    have HZ := Lib.hid BZ
    clear BZ
    refine (bitsError_any a2 b2 s2 n2 c2 wz).mono ?_
    rintro e v1 ⟨rfl, hb1⟩
    have k0 := cell_later hb1 m0
    have k1 := cell_later hb1 m1
    have k2 := cell_later hb1 m2
    have HZ1 := Lib.hid (below_step HZ.out hb1)
    clear m0 m1 m2 hb1 HZ
    by_cases hb : pageErr a2 b2 n2 = 0
    · go_wp2_with fail
      go_ret
      exact ⟨rfl, HZ1.out⟩
    · have HB := Lib.hid hb
      have hb' : (pageErr a2 b2 n2 != 0) = true := by simpa using hb
      clear hb
      obtain ⟨E2, hE2⟩ : ∃ E, E = pageErr a2 b2 n2 := ⟨_, rfl⟩
      rw [← hE2] at hb' ⊢
      have HE2 := Lib.hid hE2
      clear hE2
      go_wp2_with fail
      refine (specksErr a2 b2 _ s2 n2 c2 v1 HB.out).mono ?_
      rintro e v2 ⟨rfl, hb2⟩
      have m0 := cell_later hb2 k0
      have m1 := cell_later hb2 k1
      have m2 := cell_later hb2 k2
      have lt := World.block_lt_of_cell? _ _ m0
      simp only at lt
      have HZ2 := Lib.hid (below_step HZ1.out hb2)
      clear k0 k1 k2 hb2 HZ1
      rw [← HE2.out]
      go_wp2_with fail
      obtain ⟨v3, hv3⟩ : ∃ v3, v3 = v2.alloc (.cells #[.int .i64 0, .int .i64 0, .slice none 0 0] 24) := ⟨_, rfl⟩
      have B3 : Below v2.heap.size v2 v3 := by rw [hv3]; exact new_below _ _
      obtain ⟨a0, a1', a2', _, _, _⟩ := block3 (w := v3) (b := v2.heap.size) (x := .int .i64 0) (y := .int .i64 0) (z := .slice none 0 0) (t := 24) (by rw [hv3]; exact heap_alloc_new _ _)
      have k0 := cell_later B3 m0
      have k1 := cell_later B3 m1
      have k2 := cell_later B3 m2
      have HZ3 := Lib.hid (below_step HZ2.out B3)
      rw [← hv3]
      clear hv3 m0 m1 m2 B3 HZ2 a0 a1'
      refine (strokesErr a2 b2 s2 n2 c2 v3 HB.out).mono ?_
      rintro e v4 ⟨rfl, hb4⟩
      have m0 := cell_later hb4 k0
      have m1 := cell_later hb4 k1
      have m2 := cell_later hb4 k2
      have e2 := cell_later hb4 a2'
      have HZ4 := Lib.hid (below_step HZ3.out hb4)
      clear k0 k1 k2 hb4 HZ3 a2'
      rw [← HE2.out]
      go_wp2_with fail
      refine (spreadErr a2 b2 _ s2 n2 c2 v4 HB.out).mono ?_
      rintro e v5 ⟨rfl, hb5⟩
      have f2 := cell_later hb5 e2
      have lf := World.block_lt_of_cell? _ _ f2
      simp only at lf
      have HZ5 := Lib.hid (below_step HZ4.out hb5)
      clear m0 m1 m2 hb5 HZ4 e2
      rw [← HE2.out]
      go_wp2_with fail
      go_ret
      exact ⟨rfl, below_alloc HZ5.out _⟩

end Go.Proofs.YtofcojcfcpfdmaaDoor
namespace Go.Proofs.YtofcojcfcpfdmaaDoor
open Go.ChangeShapes Go.WideShapes Go.ChangeAt Go.RowKit Go.Joins
open Go.ChangeMaps (open_string shut_string)
set_option linter.unusedVariables false

theorem own : ownKnob Tryd.prog.godebug = none := by kernel_rfl
theorem laidOut : laidOutB Tryd.prog = true := by kernel_rfl
theorem cellsGray : Tryd.prog.cellsOf 39 = 3 := by kernel_rfl
theorem cellsBits : Tryd.prog.cellsOf 24 = 3 := by kernel_rfl
theorem cellsByte : Tryd.prog.cellsOf 5 = 1 := by kernel_rfl

/-- A slice of bytes that came in: nil; or its cells hold the numbers zs, each a byte. -/
def IsBytes (w : World) (a : Option Addr) (len cap : Nat) (zs : List Int) : Prop :=
  (a = none ∧ len = 0 ∧ cap = 0 ∧ zs = []) ∨
  ∃ x, a = some x ∧ len ≤ cap ∧ zs.length = cap ∧ (∀ i, i < zs.length → w.cell? (x.add i) = some (.int .u8 (zs.getD i 0))) ∧ ∀ n ∈ zs, (Lit.int .u8 n).wf = true

set_option maxRecDepth 100000 in
/-- A page in grey by value, opened. -/
theorem open_gray {W : World} {H : Type} {enc : TypeId × Value → H} {base : Nat} {held : Bool} {r : Reach} {b0 : Nat} {v : Value} {d : DataW H} {p : List MemPlace}
    (hv : Value.okWide Tryd.prog W r b0 39 v) (h : DataW.Trod enc Tryd.prog W base (fun _ => true) held 39 v d p) :
    ∃ a b s n c zs, v = .agg #[.int .i64 a, .int .i64 b, .slice s n c] ∧ IsBytes W s n c zs := by
  obtain ⟨c0, c1, c2, y0, y1, y2, m, rfl, rfl, rfl, hy0, hy1, hy2⟩ := open_agg3 Tryd.underlying39 (by kernel_rfl) cellsGray hv h
  obtain ⟨a, e0, rfl, wa⟩ := DataW.trod_int Tryd.underlying3 hy0
  obtain ⟨b, e1, rfl, wb⟩ := DataW.trod_int Tryd.underlying3 hy1
  simp at e0 e1
  subst e0 e1
  rcases open_ints Tryd.underlying37 Tryd.underlying5 cellsByte hy2 with ⟨hcs, _⟩ | ⟨x, l, c, zs, hcs, _, hl, hm, hz, _, hcell, hwz⟩
  · simp at hcs
    subst hcs
    exact ⟨a, b, none, 0, 0, [], rfl, .inl ⟨rfl, rfl, rfl, rfl⟩⟩
  · simp at hcs
    subst hcs
    exact ⟨a, b, some x, l, c, zs, rfl, .inr ⟨x, rfl, hl, by simpa using hz, hcell, hwz⟩⟩

theorem cellsBool : Tryd.prog.cellsOf 4 = 1 := by kernel_rfl

/-- A slice of bools that came in: nil; or its cells hold what B tells. -/
def IsBools (w : World) (a : Option Addr) (len cap : Nat) (B : Nat → Bool) : Prop :=
  (a = none ∧ len = 0 ∧ cap = 0) ∨ ∃ x, a = some x ∧ ∀ i, i < len → w.cell? (x.add i) = some (.bool (B i))

set_option maxRecDepth 100000 in
/-- A page in black and white by value, opened. -/
theorem open_bits {W : World} {H : Type} {enc : TypeId × Value → H} {base : Nat} {held : Bool} {r : Reach} {b0 : Nat} {v : Value} {d : DataW H} {p : List MemPlace}
    (hv : Value.okWide Tryd.prog W r b0 24 v) (h : DataW.Trod enc Tryd.prog W base (fun _ => true) held 24 v d p) :
    ∃ a b s n c B, v = .agg #[.int .i64 a, .int .i64 b, .slice s n c] ∧ IsBools W s n c B := by
  obtain ⟨c0, c1, c2, y0, y1, y2, m, rfl, rfl, rfl, hy0, hy1, hy2⟩ := open_agg3 Tryd.underlying24 (by kernel_rfl) cellsBits hv h
  obtain ⟨a, e0, rfl, wa⟩ := DataW.trod_int Tryd.underlying3 hy0
  obtain ⟨b, e1, rfl, wb⟩ := DataW.trod_int Tryd.underlying3 hy1
  simp at e0 e1
  subst e0 e1
  rcases Go.Deep.open_bools Tryd.underlying22 Tryd.underlying4 cellsBool hy2 with ⟨hcs, _⟩ | ⟨x, l, c, B, hcs, _, hl, hm, _, hcell⟩
  · simp at hcs
    subst hcs
    exact ⟨a, b, none, 0, 0, fun _ => false, rfl, .inl ⟨rfl, rfl, rfl⟩⟩
  · simp at hcs
    subst hcs
    exact ⟨a, b, some x, l, c, B, rfl, .inr ⟨x, rfl, fun i hi => hcell i (by omega)⟩⟩

end Go.Proofs.YtofcojcfcpfdmaaDoor
namespace Go.Proofs.YtofcojcfcpfdmaaDoor
open Go.ChangeShapes Go.WideShapes Go.ChangeAt Go.RowKit Go.Joins
set_option linter.unusedVariables false

set_option maxRecDepth 100000 in
theorem pagesCheck_lifted (os : Os) (started : os.Started) (H : Type) (enc : TypeId × Value → H) :
    ReturnsInHanded {} Tryd.checked os 4 .any (fun w args => (Rows.pagesCheckSpec.pre enc Tryd.prog Tryd.f4 Rows.pagesCheckRow.domain false w args ∧ laidMetH Tryd.prog Rows.pagesCheckRow.laid w) ∧ sizedMet enc Tryd.prog Tryd.f4 (OpenSpec.ofChange Rows.pagesCheckSpec) false w args)
      (Rows.pagesCheckSpec.post enc Tryd.prog Tryd.f4 false true false false) := by
  refine returnsInHanded_of_change_and (C := Tryd.checked) (X := fun w _ => laidMetH Tryd.prog Rows.pagesCheckRow.laid w) (fun _ _ _ hh h => h.of_heap hh) own started (by kernel_rfl) Tryd.func4
    (ChangeSpec.witness_shaped (enc := enc) (C := Tryd.checked) (os := os) (X := fun w _ => laidMetH Tryd.prog Rows.pagesCheckRow.laid w) false (World.laidAll Tryd.prog os Rows.pagesCheckRow.laid) #[.agg #[.int .i64 0, .int .i64 0, .slice none 0 0], .agg #[.int .i64 0, .int .i64 0, .slice none 0 0]] 8 (World.laidAll_os _ _ _)
      (World.shaped_of_ZipB (by kernel_rfl) (by kernel_rfl)) (by kernel_rfl) (by kernel_rfl) (by kernel_rfl)
      (by rw [MakeChecks.laidMetH_plain _ _ _ (by kernel_rfl)]; exact laidMet_laidAll _ (by kernel_rfl) (by kernel_rfl))) ?_
  intro W base args ds gs before hval0 hW _ _ _ _
  have hval : ∀ (j : Nat) t v, Tryd.f4.params[j]? = some t → args[j]? = some v → Value.okWide Tryd.prog W .any base t v := hval0
  have hW' := hW
  obtain ⟨p, q, hA0, hV, rfl, _, _⟩ := hW
  have hA : DataW.TrodAll enc Tryd.prog W 0 (fun _ => true) true Tryd.f4.params.toList args.toList ds p := hA0
  rw [Tryd.params4] at hA hval
  obtain ⟨v0, vs0, d0, ds0, p0, q0, hargs, rfl, rfl, h0, r0⟩ := trodAll_cons hA
  obtain ⟨v1, vs1, d1, ds1, p1, q1, rfl, rfl, rfl, h1, r1⟩ := trodAll_cons r0
  obtain ⟨rfl, rfl, rfl⟩ := trodAll_nil r1
  obtain rfl : args = #[v0, v1] := by cases args; simp_all
  obtain ⟨rfl, rfl⟩ := trodVars_none hV
  have k0 := h0
  have k1 := h1
  have lt0 : ∀ x ∈ p0, x.block < W.heap.size := by obtain ⟨m, hm⟩ := k0; exact DataW.trod_lt m _ _ _ hm
  have lt1 : ∀ x ∈ p1, x.block < W.heap.size := by obtain ⟨m, hm⟩ := k1; exact DataW.trod_lt m _ _ _ hm
  obtain ⟨a1, b1, s1, n1, c1, zs, rfl, hs1⟩ := open_gray (hval 0 39 v0 rfl rfl) h0
  obtain ⟨a2, b2, s2, n2, c2, B, rfl, hs2⟩ := open_bits (hval 1 24 v1 rfl rfl) h1
  clear hA0 hval0
  simp only [List.append_nil] at hW'
  refine (pagesCheck_any a1 b1 s1 n1 c1 a2 b2 s2 n2 c2 W).mono fun e W' ⟨he, bel⟩ => ?_
  subst he
  exact ⟨_, rfl, _, _, _, [], _, [], hW', trodAll_mk1 (shut_bool Tryd.underlying4 _), (trodAll_cons_mk (Below.trod laidOut (by kernel_rfl) (of_decide_eq_true (by kernel_rfl)) k0 bel lt0) (trodAll_cons_mk (Below.trod laidOut (by kernel_rfl) (of_decide_eq_true (by kernel_rfl)) k1 bel lt1) trodAll_mk0)), rfl, bel.frame _, fun h => by cases h⟩

theorem pagesCheck_row : Rows.PagesCheckSaid :=
  OpenClaim.holds_of_wide 4 Tryd.f4 rfl rfl rfl rfl rfl rfl rfl ⟨rfl, rfl, rfl, rfl, rfl⟩ rfl rfl rfl rfl rfl (by kernel_rfl) Tryd.func4 (by kernel_rfl)
    (of_decide_eq_true (by kernel_rfl)) (by unfold Func.isWrapper; first | (rw [if_pos (by decide +kernel)]; kernel_rfl) | (rw [if_neg (by decide +kernel)]; exact ⟨rfl, rfl⟩))
    (fun os started H enc _ => pagesCheck_lifted os started H enc)

theorem pagesCheck_holds : Rows.PagesCheckCardSaid :=
  Claim7.holds_tied_plain_at .later [] [.data] true Rows.pagesCheckCard.stood.harness false pagesCheck_row (fun _ h => by cases h) (by kernel_rfl) (fun _ h => by cases h) pagesCheck_row_tie rfl ⟨rfl, rfl⟩ (by kernel_rfl) rfl
    (fun f fn hf hfn => by
      obtain rfl : f = 4 := Option.some.inj ((show Tryd.prog.funcNamed "flatbed/bedlaw1.PagesCheck" = some 4 by kernel_rfl).symm.trans hf) |>.symm
      obtain rfl : fn = Tryd.f4 := (Option.some.inj (Tryd.func4.symm.trans hfn)).symm
      exact ⟨by kernel_rfl, fun j t ht => by
        rw [Tryd.params4] at ht
        have hm : t ∈ [39, 24] := by simpa using Array.mem_of_getElem? ht
        have hall : ([39, 24].all fun u => !Tryd.prog.wantsStandIn u) = true := by kernel_rfl
        exact (show Tryd.prog.wantsStandIn t = false by simpa using List.all_eq_true.1 hall t hm)⟩)
    (by kernel_rfl)
end Go.Proofs.YtofcojcfcpfdmaaDoor
