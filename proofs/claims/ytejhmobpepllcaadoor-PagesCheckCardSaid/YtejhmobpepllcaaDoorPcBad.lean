/-
  Functions of package clean that are called with a page that is wrong: they return its error, and nothing else.
-/
import Derived.Test.YtejhmobpepllcaaDoorBase
namespace Go.Proofs.YtejhmobpepllcaaDoor
open Go.RowKit
set_option linter.unusedSimpArgs false
set_option linter.unusedVariables false

theorem histErr (a b : Int) (p : Option Addr) (n c : Nat) (w : World) (h : pageErr a b n ≠ 0) :
    Calls Tryd.prog 38 #[.agg #[.int .i64 a, .int .i64 b, .slice p n c]] w fun e w' => e = .returned (.tuple #[.slice none 0 0, .int .i64 (pageErr a b n)]) ∧ Below w.heap.size w w' := by
  have h' : (pageErr a b n != 0) = true := by simpa using h
  clear h
  go_enter Tryd.func38, Tryd.ntmps38
  go_wp2_with ((go_at_call 42; refine (checkGray_any _ _ _ _ _ _).mono ?_; rintro e w' ⟨rfl, rfl⟩))
  go_ret2
  exact ⟨rfl, below_alloc (new_below _ _) _⟩

theorem levelErr (a b : Int) (p : Option Addr) (n c : Nat) (w : World) (h : pageErr a b n ≠ 0) :
    Calls Tryd.prog 16 #[.agg #[.int .i64 a, .int .i64 b, .slice p n c]] w fun e w' => e = .returned (.tuple #[.int .i64 0, .int .i64 (pageErr a b n)]) ∧ Below w.heap.size w w' := by
  have h' : (pageErr a b n != 0) = true := by simpa using h
  have H := Lib.hid h
  clear h
  go_enter Tryd.func16, Tryd.ntmps16
  go_wp2_with (go_at_call 38; refine (histErr _ _ _ _ _ _ H.out).mono ?_; rintro e w1 ⟨rfl, hb⟩)
  go_ret2
  exact ⟨rfl, below_step (new_below _ _) hb⟩

theorem localErr (a b r part : Int) (p : Option Addr) (n c : Nat) (w : World) (h : pageErr a b n ≠ 0) :
    Calls Tryd.prog 17 #[.agg #[.int .i64 a, .int .i64 b, .slice p n c], .int .i64 r, .int .i64 part] w fun e w' => e = .returned (.tuple #[.agg #[.int .i64 0, .int .i64 0, .slice none 0 0], .int .i64 (pageErr a b n)]) ∧ Below w.heap.size w w' := by
  have h' : (pageErr a b n != 0) = true := by simpa using h
  clear h
  go_enter Tryd.func17, Tryd.ntmps17
  go_wp2_with ((go_at_call 42; refine (checkGray_any _ _ _ _ _ _).mono ?_; rintro e w' ⟨rfl, rfl⟩))
  refine bodyPost_ret (v := .tuple #[.agg #[.int .i64 0, .int .i64 0, .slice none 0 0], .int .i64 (pageErr a b n)]) (by simp [results, Tryd.results17, go_sem]) rfl ⟨rfl, below_alloc (below_alloc (below_alloc (new_below _ _) _) _) _⟩

theorem evenErr (a b r : Int) (p : Option Addr) (n c : Nat) (w : World) (h : pageErr a b n ≠ 0) :
    Calls Tryd.prog 18 #[.agg #[.int .i64 a, .int .i64 b, .slice p n c], .int .i64 r] w fun e w' => e = .returned (.tuple #[.agg #[.int .i64 0, .int .i64 0, .slice none 0 0], .int .i64 (pageErr a b n)]) ∧ Below w.heap.size w w' := by
  have h' : (pageErr a b n != 0) = true := by simpa using h
  clear h
  go_enter Tryd.func18, Tryd.ntmps18
  go_wp2_with ((go_at_call 42; refine (checkGray_any _ _ _ _ _ _).mono ?_; rintro e w' ⟨rfl, rfl⟩))
  refine bodyPost_ret (v := .tuple #[.agg #[.int .i64 0, .int .i64 0, .slice none 0 0], .int .i64 (pageErr a b n)]) (by simp [results, Tryd.results18, go_sem]) rfl ⟨rfl, below_alloc (below_alloc (below_alloc (new_below _ _) _) _) _⟩

theorem strokesErr (a b : Int) (p : Option Addr) (n c : Nat) (w : World) (h : pageErr a b n ≠ 0) :
    Calls Tryd.prog 20 #[.agg #[.int .i64 a, .int .i64 b, .slice p n c]] w fun e w' => e = .returned (.tuple #[.int .i64 0, .int .i64 (pageErr a b n)]) ∧ Below w.heap.size w w' := by
  have h' : (pageErr a b n != 0) = true := by simpa using h
  clear h
  go_enter Tryd.func20, Tryd.ntmps20
  go_wp2_with ((go_at_call 22; refine (checkBits_any _ _ _ _ _ _).mono ?_; rintro e w' ⟨rfl, rfl⟩))
  go_ret2
  exact ⟨rfl, below_alloc (new_below _ _) _⟩

theorem changeErr (a b most : Int) (ink : Bool) (f : Nat) (capt : Array Value) (p : Option Addr) (n c : Nat) (w : World) (h : pageErr a b n ≠ 0) :
    Calls Tryd.prog 50 #[.agg #[.int .i64 a, .int .i64 b, .slice p n c], .int .i64 most, .bool ink, .func (.func f) #[] capt] w fun e w' => e = .returned (.tuple #[.agg #[.int .i64 0, .int .i64 0, .slice none 0 0], .int .i64 0, .int .i64 (pageErr a b n)]) ∧ Below w.heap.size w w' := by
  have h' : (pageErr a b n != 0) = true := by simpa using h
  clear h
  go_enter Tryd.func50, Tryd.ntmps50
  go_wp2_with ((go_at_call 22; refine (checkBits_any _ _ _ _ _ _).mono ?_; rintro e w' ⟨rfl, rfl⟩))
  refine bodyPost_ret (v := .tuple #[.agg #[.int .i64 0, .int .i64 0, .slice none 0 0], .int .i64 0, .int .i64 (pageErr a b n)]) (by simp [results, Tryd.results50, go_sem]) rfl ⟨rfl, below_alloc (below_alloc (below_alloc (below_alloc (new_below _ _) _) _) _) _⟩

theorem inkErr (a b r least : Int) (p : Option Addr) (n c : Nat) (w : World) (h : pageErr a b n ≠ 0) :
    Calls Tryd.prog 56 #[.agg #[.int .i64 a, .int .i64 b, .slice p n c], .int .i64 r, .int .i64 least] w fun e w' => e = .returned (.tuple #[.agg #[.int .i64 0, .int .i64 0, .slice none 0 0], .int .i64 (pageErr a b n)]) ∧ Below w.heap.size w w' := by
  have h' : (pageErr a b n != 0) = true := by simpa using h
  clear h
  go_enter Tryd.func56, Tryd.ntmps56
  go_wp2_with ((go_at_call 22; refine (checkBits_any _ _ _ _ _ _).mono ?_; rintro e w' ⟨rfl, rfl⟩))
  refine bodyPost_ret (v := .tuple #[.agg #[.int .i64 0, .int .i64 0, .slice none 0 0], .int .i64 (pageErr a b n)]) (by simp [results, Tryd.results56, go_sem]) rfl ⟨rfl, below_alloc (below_alloc (below_alloc (new_below _ _) _) _) _⟩

theorem spreadErr (a b r : Int) (p : Option Addr) (n c : Nat) (w : World) (h : pageErr a b n ≠ 0) :
    Calls Tryd.prog 21 #[.agg #[.int .i64 a, .int .i64 b, .slice p n c], .int .i64 r] w fun e w' => e = .returned (.tuple #[.agg #[.int .i64 0, .int .i64 0, .slice none 0 0], .int .i64 (pageErr a b n)]) ∧ Below w.heap.size w w' := by
  have HP := Lib.hid h
  clear h
  go_enter Tryd.func21, Tryd.ntmps21
  go_wp2_with fail
  obtain ⟨w1, hw1⟩ : ∃ w1, w1 = ((w.alloc (.cells #[.int .i64 a, .int .i64 b, .slice p n c] 24)).alloc (.cells #[.int .i64 0, .int .i64 0, .slice none 0 0] 24)) := ⟨_, rfl⟩
  have B1 : Below w.heap.size w w1 := by rw [hw1]; exact below_alloc (new_below _ _) _
  have qb : w1.heap[w.heap.size + 1]? = some (.cells #[.int .i64 0, .int .i64 0, .slice none 0 0] 24 (0, 0)) := by
    rw [hw1]
    simpa using heap_alloc_new (w.alloc (.cells #[.int .i64 a, .int .i64 b, .slice p n c] 24)) (.cells #[.int .i64 0, .int .i64 0, .slice none 0 0] 24)
  rw [← hw1]
  clear hw1
  refine (inkErr a b r _ p n c w1 HP.out).mono ?_
  rintro e w2 ⟨rfl, hb⟩
  obtain ⟨j0, j1, j2, r0, r1, r2⟩ := block3 (below_block hb qb)
  have hl := (Array.getElem?_eq_some_iff.1 (below_block hb qb)).1
  have G := Lib.hid hb
  have B := Lib.hid B1
  clear hb qb B1
  go_wp2_with fail
  refine bodyPost_ret (v := .tuple #[.agg #[.int .i64 0, .int .i64 0, .slice none 0 0], .int .i64 (pageErr a b n)]) (by simp [results, Tryd.results21, go_sem, j0, j1, j2]) rfl ⟨rfl, below_far3 (below_step B.out G.out) (by omega)⟩

theorem specksErr (a b r : Int) (p : Option Addr) (n c : Nat) (w : World) (h : pageErr a b n ≠ 0) :
    Calls Tryd.prog 19 #[.agg #[.int .i64 a, .int .i64 b, .slice p n c], .int .i64 r] w fun e w' => e = .returned (.tuple #[.agg #[.int .i64 0, .int .i64 0, .slice none 0 0], .int .i64 0, .int .i64 (pageErr a b n)]) ∧ Below w.heap.size w w' := by
  have hmf : ∀ (fn : Fn) (first cap : Array Value) (w : World), (Instr.makeFunc fn first cap).run Tryd.prog w = .ok (.func fn first cap) w := fun _ _ _ _ => rfl
  have HP := Lib.hid h
  clear h
  go_enter Tryd.func19, Tryd.ntmps19
  go_wp2_with fail
  obtain ⟨w1, hw1⟩ : ∃ w1, w1 = ((w.alloc (.cells #[.int .i64 a, .int .i64 b, .slice p n c] 24)).alloc (.cells #[.int .i64 r] 3)).alloc (.cells #[.int .i64 0, .int .i64 0, .slice none 0 0] 24) := ⟨_, rfl⟩
  have B1 : Below w.heap.size w w1 := by rw [hw1]; exact below_alloc (below_alloc (new_below _ _) _) _
  have qb : w1.heap[w.heap.size + 1 + 1]? = some (.cells #[.int .i64 0, .int .i64 0, .slice none 0 0] 24 (0, 0)) := by
    rw [hw1]
    simpa using heap_alloc_new ((w.alloc (.cells #[.int .i64 a, .int .i64 b, .slice p n c] 24)).alloc (.cells #[.int .i64 r] 3)) (.cells #[.int .i64 0, .int .i64 0, .slice none 0 0] 24)
  rw [← hw1]
  clear hw1
  refine (changeErr a b r _ _ _ p n c w1 HP.out).mono ?_
  rintro e w2 ⟨rfl, hb⟩
  obtain ⟨j0, j1, j2, r0, r1, r2⟩ := block3 (below_block hb qb)
  have hl := (Array.getElem?_eq_some_iff.1 (below_block hb qb)).1
  have G := Lib.hid hb
  have B := Lib.hid B1
  clear hb qb B1
  go_wp2_with fail
  refine bodyPost_ret (v := .tuple #[.agg #[.int .i64 0, .int .i64 0, .slice none 0 0], .int .i64 0, .int .i64 (pageErr a b n)]) (by simp [results, Tryd.results19, go_sem, j0, j1, j2]) rfl ⟨rfl, below_far3 (below_step B.out G.out) (by omega)⟩

end Go.Proofs.YtejhmobpepllcaaDoor
