/-
  The walk of the law PagesCheck: it returns true, and turns nothing that was there.
-/
import Derived.Test.YtejhmobpepllcaaDoorPcBad
import Derived.Test.YtejhmobpepllcaaDoorLanded
namespace Go.Proofs.YtejhmobpepllcaaDoor
open Go.RowKit
set_option linter.unusedSimpArgs false
set_option linter.unusedVariables false

set_option maxHeartbeats 4000000 in
set_option maxRecDepth 100000 in
theorem pagesCheck_any (a1 b1 : Int) (s1 : Option Addr) (n1 c1 : Nat) (a2 b2 : Int) (s2 : Option Addr) (n2 c2 : Nat) (w : World) :
    Calls Tryd.prog 4 #[.agg #[.int .i64 a1, .int .i64 b1, .slice s1 n1 c1], .agg #[.int .i64 a2, .int .i64 b2, .slice s2 n2 c2]] w fun e w' => e = .returned (.bool true) ∧ Below w.heap.size w w' := by
  go_enter Tryd.func4, Tryd.ntmps4
  go_wp2_with ((go_at_call 14; refine (landed_any _).mono ?_; rintro e w' ⟨rfl, rfl⟩))
  obtain ⟨w1, hw1⟩ : ∃ w1, w1 = (w.alloc (.cells #[.int .i64 a1, .int .i64 b1, .slice s1 n1 c1] 39)).alloc (.cells #[.int .i64 a2, .int .i64 b2, .slice s2 n2 c2] 24) := ⟨_, rfl⟩
  have B1 : Below w.heap.size w w1 := by rw [hw1]; exact below_alloc (new_below _ _) _
  have q0 : w1.cell? ⟨w.heap.size, 0, none⟩ = some (.int .i64 a1) := by rw [hw1]; go_simp
  have q1 : w1.cell? ⟨w.heap.size, 1, none⟩ = some (.int .i64 b1) := by rw [hw1]; go_simp
  have q2 : w1.cell? ⟨w.heap.size, 2, none⟩ = some (.slice s1 n1 c1) := by rw [hw1]; go_simp
  have p0 : w1.cell? ⟨w.heap.size + 1, 0, none⟩ = some (.int .i64 a2) := by rw [hw1]; go_simp
  have p1 : w1.cell? ⟨w.heap.size + 1, 1, none⟩ = some (.int .i64 b2) := by rw [hw1]; go_simp
  have p2 : w1.cell? ⟨w.heap.size + 1, 2, none⟩ = some (.slice s2 n2 c2) := by rw [hw1]; go_simp
  rw [← hw1]
  clear hw1
  refine (grayError_any a1 b1 s1 n1 c1 w1).mono ?_
  rintro e w2 ⟨rfl, hb2⟩
  have k0 := cell_later hb2 q0
  have k1 := cell_later hb2 q1
  have k2 := cell_later hb2 q2
  have m0 := cell_later hb2 p0
  have m1 := cell_later hb2 p1
  have m2 := cell_later hb2 p2
  have B2 := below_step B1 hb2
  clear q0 q1 q2 p0 p1 p2 B1 hb2
  by_cases hg : pageErr a1 b1 n1 = 0
  · go_wp2_with fail
    obtain ⟨wz, rfl⟩ : ∃ wz : World, wz = w2 := ⟨_, rfl⟩
    have BZ := B2
    clear B2 hg k0 k1 k2
    have HZ := Lib.hid BZ
    clear BZ
    refine (bitsError_any a2 b2 s2 n2 c2 wz).mono ?_
    rintro e v1 ⟨rfl, hb1⟩
    have k0 := cell_later hb1 m0
    have k1 := cell_later hb1 m1
    have k2 := cell_later hb1 m2
    have HZ1 := Lib.hid (below_step HZ.out hb1)
    clear m0 m1 m2 hb1 HZ
    by_cases hb : pageErr a2 b2 n2 = 0
    · go_wp2_with fail
      go_ret
      exact ⟨rfl, HZ1.out⟩
    · have HB := Lib.hid hb
      have hb' : (pageErr a2 b2 n2 != 0) = true := by simpa using hb
      clear hb
      obtain ⟨E2, hE2⟩ : ∃ E, E = pageErr a2 b2 n2 := ⟨_, rfl⟩
      rw [← hE2] at hb' ⊢
      have HE2 := Lib.hid hE2
      clear hE2
      go_wp2_with fail
      refine (specksErr a2 b2 _ s2 n2 c2 v1 HB.out).mono ?_
      rintro e v2 ⟨rfl, hb2⟩
      have m0 := cell_later hb2 k0
      have m1 := cell_later hb2 k1
      have m2 := cell_later hb2 k2
      have lt := World.block_lt_of_cell? _ _ m0
      simp only at lt
      have HZ2 := Lib.hid (below_step HZ1.out hb2)
      clear k0 k1 k2 hb2 HZ1
      rw [← HE2.out]
      go_wp2_with fail
      obtain ⟨v3, hv3⟩ : ∃ v3, v3 = v2.alloc (.cells #[.int .i64 0, .int .i64 0, .slice none 0 0] 24) := ⟨_, rfl⟩
      have B3 : Below v2.heap.size v2 v3 := by rw [hv3]; exact new_below _ _
      obtain ⟨a0, a1', a2', _, _, _⟩ := block3 (w := v3) (b := v2.heap.size) (x := .int .i64 0) (y := .int .i64 0) (z := .slice none 0 0) (t := 24) (by rw [hv3]; exact heap_alloc_new _ _)
      have k0 := cell_later B3 m0
      have k1 := cell_later B3 m1
      have k2 := cell_later B3 m2
      have HZ3 := Lib.hid (below_step HZ2.out B3)
      rw [← hv3]
      clear hv3 m0 m1 m2 B3 HZ2 a0 a1'
      refine (strokesErr a2 b2 s2 n2 c2 v3 HB.out).mono ?_
      rintro e v4 ⟨rfl, hb4⟩
      have m0 := cell_later hb4 k0
      have m1 := cell_later hb4 k1
      have m2 := cell_later hb4 k2
      have e2 := cell_later hb4 a2'
      have HZ4 := Lib.hid (below_step HZ3.out hb4)
      clear k0 k1 k2 hb4 HZ3 a2'
      rw [← HE2.out]
      go_wp2_with fail
      refine (spreadErr a2 b2 _ s2 n2 c2 v4 HB.out).mono ?_
      rintro e v5 ⟨rfl, hb5⟩
      have f2 := cell_later hb5 e2
      have lf := World.block_lt_of_cell? _ _ f2
      simp only at lf
      have HZ5 := Lib.hid (below_step HZ4.out hb5)
      clear m0 m1 m2 hb5 HZ4 e2
      rw [← HE2.out]
      go_wp2_with fail
      go_ret
      exact ⟨rfl, below_alloc HZ5.out _⟩
  · have HG := Lib.hid hg
    have hg' : (pageErr a1 b1 n1 != 0) = true := by simpa using hg
    clear hg
    obtain ⟨E1, hE1⟩ : ∃ E, E = pageErr a1 b1 n1 := ⟨_, rfl⟩
    rw [← hE1] at hg' ⊢
    have HE1 := Lib.hid hE1
    have HB2 := Lib.hid B2
    clear hE1 B2
    go_wp2_with fail
    refine (levelErr a1 b1 s1 n1 c1 w2 HG.out).mono ?_
    rintro e w3 ⟨rfl, hb3⟩
    have q0 := cell_later hb3 k0
    have q1 := cell_later hb3 k1
    have q2 := cell_later hb3 k2
    have p0 := cell_later hb3 m0
    have p1 := cell_later hb3 m1
    have p2 := cell_later hb3 m2
    have HB3 := Lib.hid (below_step HB2.out hb3)
    clear k0 k1 k2 m0 m1 m2 hb3 HB2
    rw [← HE1.out]
    go_wp2_with fail
    refine (localErr a1 b1 _ _ s1 n1 c1 w3 HG.out).mono ?_
    rintro e w4 ⟨rfl, hb4⟩
    have k0 := cell_later hb4 q0
    have k1 := cell_later hb4 q1
    have k2 := cell_later hb4 q2
    have m0 := cell_later hb4 p0
    have m1 := cell_later hb4 p1
    have m2 := cell_later hb4 p2
    have l0 := World.block_lt_of_cell? _ _ k0
    simp only at l0
    have HB4 := Lib.hid (below_step HB3.out hb4)
    clear q0 q1 q2 p0 p1 p2 hb4 HB3
    rw [← HE1.out]
    go_wp2_with fail
    obtain ⟨w5, hw5⟩ : ∃ w5, w5 = w4.alloc (.cells #[.int .i64 0, .int .i64 0, .slice none 0 0] 24) := ⟨_, rfl⟩
    have B5 : Below w4.heap.size w4 w5 := by rw [hw5]; exact new_below _ _
    obtain ⟨_, _, x2, _, _, _⟩ := block3 (w := w5) (b := w4.heap.size) (x := .int .i64 0) (y := .int .i64 0) (z := .slice none 0 0) (t := 24) (by rw [hw5]; exact heap_alloc_new _ _)
    have q0 := cell_later B5 k0
    have q1 := cell_later B5 k1
    have q2 := cell_later B5 k2
    have p0 := cell_later B5 m0
    have p1 := cell_later B5 m1
    have p2 := cell_later B5 m2
    have HB5 := Lib.hid (below_step HB4.out B5)
    rw [← hw5]
    clear hw5 k0 k1 k2 m0 m1 m2 B5 HB4
    refine (evenErr a1 b1 _ s1 n1 c1 w5 HG.out).mono ?_
    rintro e w6 ⟨rfl, hb6⟩
    have k0 := cell_later hb6 q0
    have k1 := cell_later hb6 q1
    have k2 := cell_later hb6 q2
    have m0 := cell_later hb6 p0
    have m1 := cell_later hb6 p1
    have m2 := cell_later hb6 p2
    have y2 := cell_later hb6 x2
    have l1 := World.block_lt_of_cell? _ _ y2
    have l2 := World.block_lt_of_cell? _ _ m0
    simp only at l1 l2
    have HB6 := Lib.hid (below_step HB5.out hb6)
    clear q0 q1 q2 p0 p1 p2 hb6 HB5 x2
    rw [← HE1.out]
    go_wp2_with fail
    obtain ⟨wz, hwz⟩ : ∃ wz, wz = w6.alloc (.cells #[.int .i64 0, .int .i64 0, .slice none 0 0] 39) := ⟨_, rfl⟩
    have BB : Below w6.heap.size w6 wz := by rw [hwz]; exact new_below _ _
    have q0 := cell_later BB m0
    have q1 := cell_later BB m1
    have q2 := cell_later BB m2
    have BZ := below_step HB6.out BB
    rw [← hwz]
    clear hwz k0 k1 k2 m0 m1 m2 BB HB6 y2 l0 l1 l2
    have m0 := q0
    have m1 := q1
    have m2 := q2
    clear q0 q1 q2
    have HZ := Lib.hid BZ
    clear BZ
    refine (bitsError_any a2 b2 s2 n2 c2 wz).mono ?_
    rintro e v1 ⟨rfl, hb1⟩
    have k0 := cell_later hb1 m0
    have k1 := cell_later hb1 m1
    have k2 := cell_later hb1 m2
    have HZ1 := Lib.hid (below_step HZ.out hb1)
    clear m0 m1 m2 hb1 HZ
    by_cases hb : pageErr a2 b2 n2 = 0
    · go_wp2_with fail
      go_ret
      exact ⟨rfl, HZ1.out⟩
    · have HB := Lib.hid hb
      have hb' : (pageErr a2 b2 n2 != 0) = true := by simpa using hb
      clear hb
      obtain ⟨E2, hE2⟩ : ∃ E, E = pageErr a2 b2 n2 := ⟨_, rfl⟩
      rw [← hE2] at hb' ⊢
      have HE2 := Lib.hid hE2
      clear hE2
      go_wp2_with fail
      refine (specksErr a2 b2 _ s2 n2 c2 v1 HB.out).mono ?_
      rintro e v2 ⟨rfl, hb2⟩
      have m0 := cell_later hb2 k0
      have m1 := cell_later hb2 k1
      have m2 := cell_later hb2 k2
      have lt := World.block_lt_of_cell? _ _ m0
      simp only at lt
      have HZ2 := Lib.hid (below_step HZ1.out hb2)
      clear k0 k1 k2 hb2 HZ1
      rw [← HE2.out]
      go_wp2_with fail
      obtain ⟨v3, hv3⟩ : ∃ v3, v3 = v2.alloc (.cells #[.int .i64 0, .int .i64 0, .slice none 0 0] 24) := ⟨_, rfl⟩
      have B3 : Below v2.heap.size v2 v3 := by rw [hv3]; exact new_below _ _
      obtain ⟨a0, a1', a2', _, _, _⟩ := block3 (w := v3) (b := v2.heap.size) (x := .int .i64 0) (y := .int .i64 0) (z := .slice none 0 0) (t := 24) (by rw [hv3]; exact heap_alloc_new _ _)
      have k0 := cell_later B3 m0
      have k1 := cell_later B3 m1
      have k2 := cell_later B3 m2
      have HZ3 := Lib.hid (below_step HZ2.out B3)
      rw [← hv3]
      clear hv3 m0 m1 m2 B3 HZ2 a0 a1'
      refine (strokesErr a2 b2 s2 n2 c2 v3 HB.out).mono ?_
      rintro e v4 ⟨rfl, hb4⟩
      have m0 := cell_later hb4 k0
      have m1 := cell_later hb4 k1
      have m2 := cell_later hb4 k2
      have e2 := cell_later hb4 a2'
      have HZ4 := Lib.hid (below_step HZ3.out hb4)
      clear k0 k1 k2 hb4 HZ3 a2'
      rw [← HE2.out]
      go_wp2_with fail
      refine (spreadErr a2 b2 _ s2 n2 c2 v4 HB.out).mono ?_
      rintro e v5 ⟨rfl, hb5⟩
      have f2 := cell_later hb5 e2
      have lf := World.block_lt_of_cell? _ _ f2
      simp only at lf
      have HZ5 := Lib.hid (below_step HZ4.out hb5)
      clear m0 m1 m2 hb5 HZ4 e2
      rw [← HE2.out]
      go_wp2_with fail
      go_ret
      exact ⟨rfl, below_alloc HZ5.out _⟩

end Go.Proofs.YtejhmobpepllcaaDoor
