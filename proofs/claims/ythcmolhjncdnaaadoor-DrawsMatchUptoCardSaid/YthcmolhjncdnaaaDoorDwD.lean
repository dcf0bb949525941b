/-
  bar.Draw.
-/
import Derived.Test.YthcmolhjncdnaaaDoorDwC
import Derived.Test.YthcmolhjncdnaaaDoorRnB
namespace Go.Proofs.YthcmolhjncdnaaaDoor
open Go.RowKit
set_option linter.unusedSimpArgs false
set_option linter.unusedVariables false

def bit8 (b : UInt8) : Bool := decide (b.toNat = 48 ∨ b.toNat = 49)
theorem bits_ok (b : UInt8) : ([48, 49] : List UInt8).contains b = bit8 b := by
  unfold bit8
  have e : ∀ c : UInt8, (b == c) = decide (b.toNat = c.toNat) := fun c => by
    by_cases h : b = c
    · subst h; simp
    · rw [beq_eq_false_iff_ne.2 h, decide_eq_false (fun k => h (UInt8.toNat_inj.1 k))]
  simp only [List.contains_cons, List.contains_nil, Bool.or_false, e]
  rw [show (48 : UInt8).toNat = 48 from rfl, show (49 : UInt8).toNat = 49 from rfl]
  by_cases h1 : b.toNat = 48 <;> by_cases h2 : b.toNat = 49 <;> simp [h1, h2]
def bitsB (m : ByteArray) : Bool := m.data.toList.all bit8

theorem trim_bits (s : ByteArray) (w : World) (hs : s.size ≤ 9223372036854775807) :
    Calls Tryd.prog 19 #[.string s, .string ⟨#[48, 49]⟩] w fun e w' => (∃ t : ByteArray, e = .returned (.string t) ∧ t.toList.isEmpty = bitsB s) ∧ Below w.heap.size w w' := by
  refine (Any.strings_Trim_laid Tryd.lays160 (by kernel_rfl) s ⟨#[48, 49]⟩ w hs (by decide) (ascii_of_all (by decide))).mono ?_
  rintro e w' ⟨rfl, hb⟩
  exact ⟨⟨_, rfl, by rw [Lib.toList_data]; exact trimS_nil _ _ _ bits_ok⟩, hb⟩

/-- What is wrong with modules to be drawn. -/
def drawErr (m : ByteArray) (u h q : Int) : Int :=
  if m.size = 0 then 9 else if bitsB m = false then 2 else if ¬ (((1 ≤ u ∧ u ≤ 8) ∧ (1 ≤ h ∧ h ≤ 4000)) ∧ (0 ≤ q ∧ q ≤ 200)) then 3 else sizeErr (2 * q + u * (m.size : Int)) h

/-- The memory that Draw begins with. -/
def drawW (m : ByteArray) (u q : Int) (w : World) : World := (((w.alloc (.cells #[.string m] 9)).alloc (.cells #[.int .i64 u] 3)).alloc (.cells #[.int .i64 q] 3)).alloc (.cells #[.int .i64 0, .int .i64 0, .slice none 0 0] 24)

theorem empty_iff (m : ByteArray) : m.toList.isEmpty = decide (m.size = 0) := by
  rw [Lib.toList_data]
  by_cases h : m.size = 0
  · rw [decide_eq_true h, List.isEmpty_iff, ← List.length_eq_zero_iff, Array.length_toList]; exact h
  · rw [decide_eq_false h]
    cases e : m.data.toList with
    | nil => exact absurd (show m.size = 0 by have := congrArg List.length e; rw [Array.length_toList] at this; exact this) h
    | cons a t => rfl

set_option maxHeartbeats 2000000 in
set_option maxRecDepth 100000 in
theorem draw_empty (m : ByteArray) (u hh q : Int) (w : World) (h0 : m.size = 0) :
    Calls Tryd.prog 4 #[.string m, .int .i64 u, .int .i64 hh, .int .i64 q] w fun e w' => e = .returned (.tuple #[.agg #[.int .i64 0, .int .i64 0, .slice none 0 0], .int .i64 9]) ∧ Below w.heap.size w w' := by
  have he : m.toList.isEmpty = true := by rw [empty_iff]; exact decide_eq_true h0
  go_enter Tryd.func4, Tryd.ntmps4
  go_upto_region 1 with (fail)
  obtain ⟨w1, hw1⟩ : ∃ w1, w1 = drawW m u q w := ⟨_, rfl⟩
  have B1 : Below w.heap.size w w1 := by rw [hw1]; unfold drawW; exact below_alloc (below_alloc (below_alloc (new_below _ _) _) _) _
  have q1 : w1.cell? ⟨w.heap.size, 0, none⟩ = some (.string m) := by rw [hw1]; unfold drawW; go_simp
  have q2 : w1.cell? ⟨w.heap.size + 1, 0, none⟩ = some (.int .i64 u) := by rw [hw1]; unfold drawW; go_simp
  have q3 : w1.cell? ⟨w.heap.size + 1 + 1, 0, none⟩ = some (.int .i64 q) := by rw [hw1]; unfold drawW; go_simp
  have qb : w1.heap[w.heap.size + 1 + 1 + 1]? = some (.cells #[.int .i64 0, .int .i64 0, .slice none 0 0] 24 (0, 0)) := by
    rw [hw1]; unfold drawW; simpa using heap_alloc_new (((w.alloc (.cells #[.string m] 9)).alloc (.cells #[.int .i64 u] 3)).alloc (.cells #[.int .i64 q] 3)) (.cells #[.int .i64 0, .int .i64 0, .slice none 0 0] 24)
  unfold drawW at hw1
  rw [← hw1]
  clear hw1
  obtain ⟨j0, j1, j2, r0, r1, r2⟩ := block3 qb
  go_wp2_with fail
  refine bodyPost_ret (v := .tuple #[.agg #[.int .i64 0, .int .i64 0, .slice none 0 0], .int .i64 9]) (by simp [results, Tryd.results4, go_sem, j0, j1, j2]) rfl ⟨rfl, below_far3 B1 (by omega)⟩

set_option maxHeartbeats 2000000 in
set_option maxRecDepth 100000 in
theorem draw_form (m : ByteArray) (u hh q : Int) (w : World) (hs : m.size ≤ 9223372036854775807) (h0 : m.size ≠ 0) (h1 : bitsB m = false) :
    Calls Tryd.prog 4 #[.string m, .int .i64 u, .int .i64 hh, .int .i64 q] w fun e w' => e = .returned (.tuple #[.agg #[.int .i64 0, .int .i64 0, .slice none 0 0], .int .i64 2]) ∧ Below w.heap.size w w' := by
  have he : m.toList.isEmpty = false := by rw [empty_iff]; exact decide_eq_false h0
  go_enter Tryd.func4, Tryd.ntmps4
  go_upto_region 1 with (fail)
  obtain ⟨w1, hw1⟩ : ∃ w1, w1 = drawW m u q w := ⟨_, rfl⟩
  have B1 : Below w.heap.size w w1 := by rw [hw1]; unfold drawW; exact below_alloc (below_alloc (below_alloc (new_below _ _) _) _) _
  have q1 : w1.cell? ⟨w.heap.size, 0, none⟩ = some (.string m) := by rw [hw1]; unfold drawW; go_simp
  have q2 : w1.cell? ⟨w.heap.size + 1, 0, none⟩ = some (.int .i64 u) := by rw [hw1]; unfold drawW; go_simp
  have q3 : w1.cell? ⟨w.heap.size + 1 + 1, 0, none⟩ = some (.int .i64 q) := by rw [hw1]; unfold drawW; go_simp
  have qb : w1.heap[w.heap.size + 1 + 1 + 1]? = some (.cells #[.int .i64 0, .int .i64 0, .slice none 0 0] 24 (0, 0)) := by
    rw [hw1]; unfold drawW; simpa using heap_alloc_new (((w.alloc (.cells #[.string m] 9)).alloc (.cells #[.int .i64 u] 3)).alloc (.cells #[.int .i64 q] 3)) (.cells #[.int .i64 0, .int .i64 0, .slice none 0 0] 24)
  unfold drawW at hw1
  rw [← hw1]
  clear hw1
  have TR := Lib.hid (trim_bits m w1 hs)
  rw [h1] at TR
  have QB := Lib.hid qb
  have C1 := Lib.hid q1
  have C2 := Lib.hid q2
  have C3 := Lib.hid q3
  have HB1 := Lib.hid B1
  clear qb q2 q3 B1
  go_wp2_with fail
  refine TR.out.mono ?_
  rintro e w2 ⟨⟨t, rfl, hte⟩, hb2⟩
  obtain ⟨j0, j1, j2, r0, r1, r2⟩ := block3 (below_block hb2 QB.out)
  have k1 := cell_later hb2 C1.out
  have k2 := cell_later hb2 C2.out
  have k3 := cell_later hb2 C3.out
  have B2 := Lib.hid (below_step HB1.out hb2)
  clear hb2 q1 TR
  go_wp2_with fail
  refine bodyPost_ret (v := .tuple #[.agg #[.int .i64 0, .int .i64 0, .slice none 0 0], .int .i64 2]) (by simp [results, Tryd.results4, go_sem, j0, j1, j2]) rfl ⟨rfl, below_far3 B2.out (by omega)⟩

set_option maxHeartbeats 2000000 in
set_option maxRecDepth 100000 in
theorem draw_range (m : ByteArray) (u hh q : Int) (w : World) (hs : m.size ≤ 9223372036854775807) (h0 : m.size ≠ 0) (h1 : bitsB m = true) (hr : ¬ (((1 ≤ u ∧ u ≤ 8) ∧ (1 ≤ hh ∧ hh ≤ 4000)) ∧ (0 ≤ q ∧ q ≤ 200))) :
    Calls Tryd.prog 4 #[.string m, .int .i64 u, .int .i64 hh, .int .i64 q] w fun e w' => e = .returned (.tuple #[.agg #[.int .i64 0, .int .i64 0, .slice none 0 0], .int .i64 3]) ∧ Below w.heap.size w w' := by
  have he : m.toList.isEmpty = false := by rw [empty_iff]; exact decide_eq_false h0
  go_enter Tryd.func4, Tryd.ntmps4
  go_upto_region 1 with (fail)
  obtain ⟨w1, hw1⟩ : ∃ w1, w1 = drawW m u q w := ⟨_, rfl⟩
  have B1 : Below w.heap.size w w1 := by rw [hw1]; unfold drawW; exact below_alloc (below_alloc (below_alloc (new_below _ _) _) _) _
  have q1 : w1.cell? ⟨w.heap.size, 0, none⟩ = some (.string m) := by rw [hw1]; unfold drawW; go_simp
  have q2 : w1.cell? ⟨w.heap.size + 1, 0, none⟩ = some (.int .i64 u) := by rw [hw1]; unfold drawW; go_simp
  have q3 : w1.cell? ⟨w.heap.size + 1 + 1, 0, none⟩ = some (.int .i64 q) := by rw [hw1]; unfold drawW; go_simp
  have qb : w1.heap[w.heap.size + 1 + 1 + 1]? = some (.cells #[.int .i64 0, .int .i64 0, .slice none 0 0] 24 (0, 0)) := by
    rw [hw1]; unfold drawW; simpa using heap_alloc_new (((w.alloc (.cells #[.string m] 9)).alloc (.cells #[.int .i64 u] 3)).alloc (.cells #[.int .i64 q] 3)) (.cells #[.int .i64 0, .int .i64 0, .slice none 0 0] 24)
  unfold drawW at hw1
  rw [← hw1]
  clear hw1
  have TR := Lib.hid (trim_bits m w1 hs)
  rw [h1] at TR
  have QB := Lib.hid qb
  have C1 := Lib.hid q1
  have C2 := Lib.hid q2
  have C3 := Lib.hid q3
  have HB1 := Lib.hid B1
  clear qb q2 q3 B1
  go_wp2_with fail
  refine TR.out.mono ?_
  rintro e w2 ⟨⟨t, rfl, hte⟩, hb2⟩
  obtain ⟨j0, j1, j2, r0, r1, r2⟩ := block3 (below_block hb2 QB.out)
  have k1 := cell_later hb2 C1.out
  have k2 := cell_later hb2 C2.out
  have k3 := cell_later hb2 C3.out
  have B2 := Lib.hid (below_step HB1.out hb2)
  clear hb2 q1 TR
  by_cases a1 : 1 ≤ u ∧ u ≤ 8
  · by_cases a2 : 1 ≤ hh ∧ hh ≤ 4000
    · have a3 : ¬ (0 ≤ q ∧ q ≤ 200) := fun k => hr ⟨⟨a1, a2⟩, k⟩
      have A1 := Lib.hid a1
      have A2 := Lib.hid a2
      have A3 := Lib.hid a3
      clear hr a1 a2 a3
      go_wp2_with (first | (go_at_call 20; (with_reducible refine (outside_no u 1 8 _ A1.out).mono ?_); rintro e w' ⟨rfl, rfl⟩) | (go_at_call 20; (with_reducible refine (outside_no hh 1 4000 _ A2.out).mono ?_); rintro e w' ⟨rfl, rfl⟩) | (go_at_call 20; (with_reducible refine (outside_yes q 0 200 _ A3.out).mono ?_); rintro e w' ⟨rfl, rfl⟩))
      refine bodyPost_ret (v := .tuple #[.agg #[.int .i64 0, .int .i64 0, .slice none 0 0], .int .i64 3]) (by simp [results, Tryd.results4, go_sem, j0, j1, j2]) rfl ⟨rfl, below_far3 B2.out (by omega)⟩
    · have A1 := Lib.hid a1
      have A2 := Lib.hid a2
      clear hr a1 a2
      go_wp2_with (first | (go_at_call 20; (with_reducible refine (outside_no u 1 8 _ A1.out).mono ?_); rintro e w' ⟨rfl, rfl⟩) | (go_at_call 20; (with_reducible refine (outside_yes hh 1 4000 _ A2.out).mono ?_); rintro e w' ⟨rfl, rfl⟩))
      refine bodyPost_ret (v := .tuple #[.agg #[.int .i64 0, .int .i64 0, .slice none 0 0], .int .i64 3]) (by simp [results, Tryd.results4, go_sem, j0, j1, j2]) rfl ⟨rfl, below_far3 B2.out (by omega)⟩
  · have A1 := Lib.hid a1
    clear hr a1
    go_wp2_with (first | (go_at_call 20; (with_reducible refine (outside_yes u 1 8 _ A1.out).mono ?_); rintro e w' ⟨rfl, rfl⟩))
    refine bodyPost_ret (v := .tuple #[.agg #[.int .i64 0, .int .i64 0, .slice none 0 0], .int .i64 3]) (by simp [results, Tryd.results4, go_sem, j0, j1, j2]) rfl ⟨rfl, below_far3 B2.out (by omega)⟩

set_option maxHeartbeats 2000000 in
set_option maxRecDepth 100000 in
theorem draw_size (m : ByteArray) (U Q : Nat) (hh : Int) (w : World) (hs : m.size ≤ 1048576) (h0 : m.size ≠ 0) (h1 : bitsB m = true) (a1 : 1 ≤ (U : Int) ∧ (U : Int) ≤ 8) (a2 : 1 ≤ hh ∧ hh ≤ 4000) (a3 : 0 ≤ (Q : Int) ∧ (Q : Int) ≤ 200) (hz : sizeErr ((m.size * U + 2 * Q : Nat) : Int) hh ≠ 0) :
    Calls Tryd.prog 4 #[.string m, .int .i64 U, .int .i64 hh, .int .i64 Q] w fun e w' => e = .returned (.tuple #[.agg #[.int .i64 0, .int .i64 0, .slice none 0 0], .int .i64 (sizeErr ((m.size * U + 2 * Q : Nat) : Int) hh)]) ∧ Below w.heap.size w w' := by
  have he : m.toList.isEmpty = false := by rw [empty_iff]; exact decide_eq_false h0
  have hs' := hs
  replace hs : m.size ≤ 9223372036854775807 := by omega
  obtain ⟨W, hW⟩ : ∃ W, W = m.size * U + 2 * Q := ⟨_, rfl⟩
  have hle : m.size * U ≤ 1048576 * 8 := Nat.mul_le_mul hs' (by omega)
  have m1 : (m.size : Int) * (U : Int) = ((m.size * U : Nat) : Int) := by simp
  have m2 : 0 ≤ (m.size : Int) * (U : Int) := by rw [m1]; omega
  have m3 : (m.size : Int) * (U : Int) ≤ 8388608 := by rw [m1]; omega
  have m4 : (m.size : Int) * (U : Int) + 2 * (Q : Int) = (W : Int) := by rw [m1, hW]; omega
  have m5 : (Q : Int) ≤ 200 := a3.2
  have A1 := Lib.hid a1
  have A2 := Lib.hid a2
  have A3 := Lib.hid a3
  have HW := Lib.hid hW
  clear hW hle m1 hs' a1 a2 a3
  rw [← HW.out] at hz ⊢
  obtain ⟨E, hE⟩ : ∃ E, E = sizeErr (W : Int) hh := ⟨_, rfl⟩
  have CS := Lib.hid (fun wx => checkSize_any (W : Int) hh wx)
  rw [← hE] at hz CS ⊢
  have hz' : (E != 0) = true := by simpa using hz
  clear hE hz
  go_enter Tryd.func4, Tryd.ntmps4
  go_upto_region 1 with (fail)
  obtain ⟨w1, hw1⟩ : ∃ w1, w1 = drawW m (U : Int) (Q : Int) w := ⟨_, rfl⟩
  have B1 : Below w.heap.size w w1 := by rw [hw1]; unfold drawW; exact below_alloc (below_alloc (below_alloc (new_below _ _) _) _) _
  have q1 : w1.cell? ⟨w.heap.size, 0, none⟩ = some (.string m) := by rw [hw1]; unfold drawW; go_simp
  have q2 : w1.cell? ⟨w.heap.size + 1, 0, none⟩ = some (.int .i64 U) := by rw [hw1]; unfold drawW; go_simp
  have q3 : w1.cell? ⟨w.heap.size + 1 + 1, 0, none⟩ = some (.int .i64 Q) := by rw [hw1]; unfold drawW; go_simp
  have qb : w1.heap[w.heap.size + 1 + 1 + 1]? = some (.cells #[.int .i64 0, .int .i64 0, .slice none 0 0] 24 (0, 0)) := by
    rw [hw1]; unfold drawW; simpa using heap_alloc_new (((w.alloc (.cells #[.string m] 9)).alloc (.cells #[.int .i64 U] 3)).alloc (.cells #[.int .i64 Q] 3)) (.cells #[.int .i64 0, .int .i64 0, .slice none 0 0] 24)
  unfold drawW at hw1
  rw [← hw1]
  clear hw1
  have TR := Lib.hid (trim_bits m w1 hs)
  rw [h1] at TR
  have QB := Lib.hid qb
  have C1 := Lib.hid q1
  have C2 := Lib.hid q2
  have C3 := Lib.hid q3
  have HB1 := Lib.hid B1
  clear qb q2 q3 B1
  go_wp2_with fail
  refine TR.out.mono ?_
  rintro e w2 ⟨⟨t, rfl, hte⟩, hb2⟩
  obtain ⟨j0, j1, j2, r0, r1, r2⟩ := block3 (below_block hb2 QB.out)
  have k1 := cell_later hb2 C1.out
  have k2 := cell_later hb2 C2.out
  have k3 := cell_later hb2 C3.out
  have B2 := Lib.hid (below_step HB1.out hb2)
  have hb2' := hb2
  clear hb2 q1 TR
  clear r0 r1 r2 j0 j1 j2
  go_upto_region 8 with (first | (go_at_call 20; (with_reducible refine (outside_no (U : Int) 1 8 _ A1.out).mono ?_); rintro e w' ⟨rfl, rfl⟩) | (go_at_call 20; (with_reducible refine (outside_no hh 1 4000 _ A2.out).mono ?_); rintro e w' ⟨rfl, rfl⟩) | (go_at_call 20; (with_reducible refine (outside_no (Q : Int) 0 200 _ A3.out).mono ?_); rintro e w' ⟨rfl, rfl⟩))
  obtain ⟨w3, hw3⟩ : ∃ w3, w3 = w2.alloc (.cells #[.int .i64 W] 3) := ⟨_, rfl⟩
  have hb3 : Below w2.heap.size w2 w3 := by rw [hw3]; exact new_below _ _
  have kw : w3.cell? ⟨w2.heap.size, 0, none⟩ = some (.int .i64 W) := by rw [hw3]; go_simp
  have QB3 := Lib.hid (below_block hb3 (below_block hb2' QB.out))
  have K1 := Lib.hid (cell_later hb3 k1)
  have K2 := Lib.hid (cell_later hb3 k2)
  have K3 := Lib.hid (cell_later hb3 k3)
  have KW := Lib.hid kw
  have B3 := Lib.hid (below_step B2.out hb3)
  rw [← hw3]
  clear hw3 k1 k2 k3 hb3 hb2' m2 m3 m4
  obtain ⟨j0, j1, j2, r0, r1, r2⟩ := block3 QB3.out
  go_wp2_with (go_at_call 21; refine (CS.out _).mono ?_; rintro e w' ⟨rfl, rfl⟩)
  refine bodyPost_ret (v := .tuple #[.agg #[.int .i64 0, .int .i64 0, .slice none 0 0], .int .i64 E]) (by simp [results, Tryd.results4, go_sem, j0, j1, j2]) rfl ⟨rfl, below_far3 B3.out (by omega)⟩

set_option maxHeartbeats 2000000 in
set_option maxRecDepth 100000 in
theorem draw_ok (H : Nat) (m : ByteArray) (U Q : Nat) (hh : Int) (w : World) (hs : m.size ≤ 1048576) (h0 : m.size ≠ 0) (h1 : bitsB m = true) (a1 : 1 ≤ (U : Int) ∧ (U : Int) ≤ 8) (a2 : 1 ≤ hh ∧ hh ≤ 4000) (a3 : 0 ≤ (Q : Int) ∧ (Q : Int) ≤ 200) (hH : hh = (H : Int)) (hz : sizeErr ((m.size * U + 2 * Q : Nat) : Int) hh = 0) :
    Calls Tryd.prog 4 #[.string m, .int .i64 U, .int .i64 hh, .int .i64 Q] w fun e w' => ∃ g c, e = .returned (.tuple #[.agg #[.int .i64 ((m.size * U + 2 * Q : Nat) : Int), .int .i64 H, .slice (some ⟨g, 0, none⟩) ((m.size * U + 2 * Q) * H) c], .int .i64 0]) ∧ (∀ j, j < (m.size * U + 2 * Q) * H → w'.cell? ⟨g, 0 + j, none⟩ = some (.bool (drawZ m Q U (j % (m.size * U + 2 * Q))))) ∧ Below w.heap.size w w' := by
  have he : m.toList.isEmpty = false := by rw [empty_iff]; exact decide_eq_false h0
  have hs' := hs
  replace hs : m.size ≤ 9223372036854775807 := by omega
  obtain ⟨W, hW⟩ : ∃ W, W = m.size * U + 2 * Q := ⟨_, rfl⟩
  have hle : m.size * U ≤ 1048576 * 8 := Nat.mul_le_mul hs' (by omega)
  have m1 : (m.size : Int) * (U : Int) = ((m.size * U : Nat) : Int) := by simp
  have m2 : 0 ≤ (m.size : Int) * (U : Int) := by rw [m1]; omega
  have m3 : (m.size : Int) * (U : Int) ≤ 8388608 := by rw [m1]; omega
  have m4 : (m.size : Int) * (U : Int) + 2 * (Q : Int) = (W : Int) := by rw [m1, hW]; omega
  have m5 : (Q : Int) ≤ 200 := a3.2
  have A1 := Lib.hid a1
  have A2 := Lib.hid a2
  have A3 := Lib.hid a3
  have HW := Lib.hid hW
  clear hW hle m1 hs' a1 a2 a3
  rw [← HW.out] at hz ⊢
  obtain ⟨⟨z1, z2, z3, z4⟩, z5, z6⟩ := sizeErr_zero hz
  have CS := Lib.hid (fun wx => checkSize_any (W : Int) hh wx)
  rw [hz] at CS
  subst hH
  have HZ := Lib.hid (show (1 ≤ W ∧ W ≤ 4000) ∧ (1 ≤ H ∧ H ≤ 4000) ∧ W * H ≤ 1048576 by rw [← Int.natCast_mul] at z6; omega)
  clear hz z1 z2 z3 z4 z5 z6
  go_enter Tryd.func4, Tryd.ntmps4
  go_upto_region 1 with (fail)
  obtain ⟨w1, hw1⟩ : ∃ w1, w1 = drawW m (U : Int) (Q : Int) w := ⟨_, rfl⟩
  have B1 : Below w.heap.size w w1 := by rw [hw1]; unfold drawW; exact below_alloc (below_alloc (below_alloc (new_below _ _) _) _) _
  have q1 : w1.cell? ⟨w.heap.size, 0, none⟩ = some (.string m) := by rw [hw1]; unfold drawW; go_simp
  have q2 : w1.cell? ⟨w.heap.size + 1, 0, none⟩ = some (.int .i64 U) := by rw [hw1]; unfold drawW; go_simp
  have q3 : w1.cell? ⟨w.heap.size + 1 + 1, 0, none⟩ = some (.int .i64 Q) := by rw [hw1]; unfold drawW; go_simp
  have qb : w1.heap[w.heap.size + 1 + 1 + 1]? = some (.cells #[.int .i64 0, .int .i64 0, .slice none 0 0] 24 (0, 0)) := by
    rw [hw1]; unfold drawW; simpa using heap_alloc_new (((w.alloc (.cells #[.string m] 9)).alloc (.cells #[.int .i64 U] 3)).alloc (.cells #[.int .i64 Q] 3)) (.cells #[.int .i64 0, .int .i64 0, .slice none 0 0] 24)
  unfold drawW at hw1
  rw [← hw1]
  clear hw1
  have TR := Lib.hid (trim_bits m w1 hs)
  rw [h1] at TR
  have QB := Lib.hid qb
  have C1 := Lib.hid q1
  have C2 := Lib.hid q2
  have C3 := Lib.hid q3
  have HB1 := Lib.hid B1
  clear qb q2 q3 B1
  go_wp2_with fail
  refine TR.out.mono ?_
  rintro e w2 ⟨⟨t, rfl, hte⟩, hb2⟩
  obtain ⟨j0, j1, j2, r0, r1, r2⟩ := block3 (below_block hb2 QB.out)
  have k1 := cell_later hb2 C1.out
  have k2 := cell_later hb2 C2.out
  have k3 := cell_later hb2 C3.out
  have B2 := Lib.hid (below_step HB1.out hb2)
  have hb2' := hb2
  clear hb2 q1 TR
  clear r0 r1 r2 j0 j1 j2
  go_upto_region 8 with (first | (go_at_call 20; (with_reducible refine (outside_no (U : Int) 1 8 _ A1.out).mono ?_); rintro e w' ⟨rfl, rfl⟩) | (go_at_call 20; (with_reducible refine (outside_no (H : Int) 1 4000 _ A2.out).mono ?_); rintro e w' ⟨rfl, rfl⟩) | (go_at_call 20; (with_reducible refine (outside_no (Q : Int) 0 200 _ A3.out).mono ?_); rintro e w' ⟨rfl, rfl⟩))
  obtain ⟨w3, hw3⟩ : ∃ w3, w3 = w2.alloc (.cells #[.int .i64 W] 3) := ⟨_, rfl⟩
  have hb3 : Below w2.heap.size w2 w3 := by rw [hw3]; exact new_below _ _
  have kw : w3.cell? ⟨w2.heap.size, 0, none⟩ = some (.int .i64 W) := by rw [hw3]; go_simp
  have QB3 := Lib.hid (below_block hb3 (below_block hb2' QB.out))
  have K1 := Lib.hid (cell_later hb3 k1)
  have K2 := Lib.hid (cell_later hb3 k2)
  have K3 := Lib.hid (cell_later hb3 k3)
  have KW := Lib.hid kw
  have B3 := Lib.hid (below_step B2.out hb3)
  rw [← hw3]
  clear hw3 k1 k2 k3 hb3 hb2' m2 m3 m4
  obtain ⟨j0, j1, j2, r0, r1, r2⟩ := block3 QB3.out
  have FL := Lib.hid (fillBool_any W H 23 #[.pointer (some ⟨w.heap.size + 1 + 1, 0, none⟩), .pointer (some ⟨w2.heap.size, 0, none⟩), .pointer (some ⟨w.heap.size, 0, none⟩), .pointer (some ⟨w.heap.size + 1, 0, none⟩)] (fun x _ => drawZ m Q U x) w3 HZ.out.1.1 (by have := HZ.out; omega) (by have := HZ.out; omega) (by have := HZ.out; omega) (Go.Proofs.enters_of Tryd.func23 (by kernel_rfl) rfl)
    (fun x y wx hx hy hbx => draw1_any m Q U W x y _ _ _ _ wx (by have := A1.out; omega) (by have := A3.out; omega) HW.out HZ.out.1.2 hx (cell_later hbx K3.out) (cell_later hbx KW.out) (cell_later hbx K1.out) (cell_later hbx K2.out)))
  clear j0 j1 j2 r0 r1 r2
  go_wp2_with (go_at_call 21; refine (CS.out _).mono ?_; rintro e w' ⟨rfl, rfl⟩)
  refine FL.out.mono ?_
  rintro e w4 ⟨v, rfl, hown, hb4⟩
  obtain ⟨j0, j1, j2, r0, r1, r2⟩ := block3 (below_block hb4 QB3.out)
  have kw4 := cell_later hb4 KW.out
  have hlt3 : w.heap.size + 1 + 1 + 1 < w3.heap.size := (Array.getElem?_eq_some_iff.1 QB3.out).1
  have HL3 := Lib.hid hlt3
  obtain ⟨g, c, rfl⟩ := owns_slice hown (Nat.mul_pos (by have := HZ.out; omega) (by have := HZ.out; omega))
  have hg := (hown.lt g rfl).1
  have HG := Lib.hid (show g ≠ w.heap.size + 1 + 1 + 1 by omega)
  have HC := Lib.hid (show ∀ j, j < W * H → w4.cell? ⟨g, 0 + j, none⟩ = some (.bool (drawZ m Q U (j % W))) from fun j hj => by
    rw [Nat.zero_add, hown.cellAt j (by omega)]
    simp [places, hj])
  have B4 := Lib.hid (below_step B3.out hb4)
  clear hown hb4 hg hlt3 FL K1 K2 K3 KW QB3 B3
  go_wp2_with fail
  refine bodyPost_ret (v := .tuple #[.agg #[.int .i64 (W : Int), .int .i64 (H : Int), .slice (some ⟨g, 0, none⟩) (W * H) c], .int .i64 0]) (by simp [results, Tryd.results4, go_sem, j0, j1, j2]) rfl ⟨g, c, rfl, fun j hj => cell_far3 HG.out (HC.out j hj), below_far3 B4.out (by have := HL3.out; omega)⟩


end Go.Proofs.YthcmolhjncdnaaaDoor
