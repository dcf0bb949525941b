/-
  The contract of page.Cut: the part of a page in a box, or an error.
-/
import Derived.Test.YtejhmobpepllcaaCutB
import Derived.Test.YtejhmobpepllcaaBox
import Derived.Test.YtejhmobpepllcaaMade
namespace Go.Proofs.Ytejhmobpepllcaa
open Go.RowKit
set_option linter.unusedSimpArgs false
set_option linter.unusedVariables false
attribute [local go_sem ↓] Go.wp_at_zero Go.wp_at_succ

theorem owns_shape {w : World} {base : Nat} {e : TypeId} {size : Nat} {v : Value} {n : Nat} {xs : List Value} (h : w.ownsRow base e size v n xs) : ∃ a l c, v = .slice a l c := by
  rcases h.2 with ⟨h0, _⟩ | ⟨g, cap, cur, h0, _⟩
  · exact ⟨_, _, _, h0⟩
  · exact ⟨_, _, _, h0⟩

theorem cut_badPage (a b X Y bw bh : Int) (p : Option Addr) (n c : Nat) (w : World) (h : pageErr a b n ≠ 0) :
    Calls Try.prog 23 #[.agg #[.int .i64 a, .int .i64 b, .slice p n c], .agg #[.int .i64 X, .int .i64 Y, .int .i64 bw, .int .i64 bh]] w fun e w' => e = .returned (.tuple #[.agg #[.int .i64 0, .int .i64 0, .slice none 0 0], .int .i64 (pageErr a b n)]) ∧ Below w.heap.size w w' := by
  have h' : (pageErr a b n != 0) = true := by simpa using h
  clear h
  go_enter Try.func23, Try.ntmps23
  go_wp2_with ((go_at_call 16; refine (checkBits_any _ _ _ _ _ _).mono ?_; rintro e w' ⟨rfl, rfl⟩))
  refine bodyPost_ret (v := .tuple #[.agg #[.int .i64 0, .int .i64 0, .slice none 0 0], .int .i64 (pageErr a b n)]) (by simp [results, Try.results23, go_sem]) rfl ⟨rfl, below_alloc (below_alloc (below_alloc (new_below _ _) _) _) _⟩

set_option maxRecDepth 100000 in
theorem cut_badBox (W H : Nat) (X Y bw bh : Int) (p : Option Addr) (n c : Nat) (w : World) (h : pageErr W H n = 0) (hs : sizeErr W H = 0) (hb : ¬ InP X Y bw bh W H) :
    Calls Try.prog 23 #[.agg #[.int .i64 W, .int .i64 H, .slice p n c], .agg #[.int .i64 X, .int .i64 Y, .int .i64 bw, .int .i64 bh]] w fun e w' => e = .returned (.tuple #[.agg #[.int .i64 0, .int .i64 0, .slice none 0 0], .int .i64 13]) ∧ Below w.heap.size w w' := by
  have hz := (sizeErr_zero hs).1
  have HB := Lib.hid hb
  clear hb hs
  go_enter Try.func23, Try.ntmps23
  go_wp2_with (first | (go_at_call 16; refine (checkBits_any _ _ _ _ _ _).mono ?_; rintro e w' ⟨rfl, rfl⟩) | (go_at_call 105; refine (checkBox_no X Y bw bh W H _ (by omega) (by omega) HB.out).mono ?_; rintro e w' ⟨rfl, rfl⟩))
  refine bodyPost_ret (v := .tuple #[.agg #[.int .i64 0, .int .i64 0, .slice none 0 0], .int .i64 13]) (by simp [results, Try.results23, go_sem]) rfl ⟨rfl, below_alloc (below_alloc (below_alloc (below_alloc (new_below _ _) _) _) _) _⟩

set_option maxHeartbeats 800000 in
set_option maxRecDepth 100000 in
theorem cut_ok (W H X Y bw bh g o n c : Nat) (z : Nat → Bool) (w : World) (hs : sizeErr W H = 0) (hn : n = W * H) (hX : X + bw ≤ W) (hY : Y + bh ≤ H) (hb1 : 1 ≤ bw) (hb2 : 1 ≤ bh)
    (hc : ∀ j, j < n → w.cell? ⟨g, o + j, none⟩ = some (.bool (z j))) :
    Calls Try.prog 23 #[.agg #[.int .i64 W, .int .i64 H, .slice (some ⟨g, o, none⟩) n c], .agg #[.int .i64 X, .int .i64 Y, .int .i64 bw, .int .i64 bh]] w fun e w' =>
      ∃ v, e = .returned (.tuple #[.agg #[.int .i64 bw, .int .i64 bh, v], .int .i64 0]) ∧ w'.ownsRow w.heap.size 4 1 v (bw * bh) ((places bw (fun x y => z ((Y + y) * W + X + x)) (bw * bh)).map Value.bool) ∧ Below w.heap.size w w' := by
  obtain ⟨hz, z0, z1⟩ := sizeErr_zero hs
  have hN : n ≤ 1048576 := by rw [hn]; rw [← Int.natCast_mul] at z1; omega
  have hpe : pageErr W H n = 0 := by unfold pageErr; rw [if_pos hs, if_pos (by rw [hn]; simp [Int.natCast_mul])]
  have hin : InP (X : Int) (Y : Int) (bw : Int) (bh : Int) (W : Int) (H : Int) := ⟨⟨by omega, by omega⟩, ⟨by omega, by omega⟩, ⟨by omega, by omega⟩, ⟨by omega, by omega⟩⟩
  have HC := Lib.hid hc
  have HN := Lib.hid hn
  have HI := Lib.hid hin
  clear hc hn hin hs z0 z1
  go_enter Try.func23, Try.ntmps23
  go_wp2_with (first | (go_at_call 16; refine (checkBits_any _ _ _ _ _ _).mono ?_; rintro e w' ⟨rfl, rfl⟩) | (go_at_call 105; refine (checkBox_yes X Y bw bh W H _ (by omega) (by omega) HI.out).mono ?_; rintro e w' ⟨rfl, rfl⟩))
  obtain ⟨w1, hw1⟩ : ∃ w1, w1 = ((((w.alloc (.cells #[.int .i64 W, .int .i64 H, .slice (some ⟨g, o, none⟩) n c] 24)).alloc (.cells #[.int .i64 X, .int .i64 Y, .int .i64 bw, .int .i64 bh] 29)).alloc (.cells #[.int .i64 0, .int .i64 0, .slice none 0 0] 24)).alloc (.cells #[.int .i64 W, .int .i64 H, .slice (some ⟨g, o, none⟩) n c] 24)).alloc (.cells #[.int .i64 X, .int .i64 Y, .int .i64 bw, .int .i64 bh] 29) := ⟨_, rfl⟩
  have B1 : Below w.heap.size w w1 := by rw [hw1]; exact below_alloc (below_alloc (below_alloc (below_alloc (new_below _ _) _) _) _) _
  have q0 : w1.cell? ⟨w.heap.size, 0, none⟩ = some (.int .i64 W) := by rw [hw1]; go_simp
  have q1 : w1.cell? ⟨w.heap.size, 1, none⟩ = some (.int .i64 H) := by rw [hw1]; go_simp
  have q2 : w1.cell? ⟨w.heap.size, 2, none⟩ = some (.slice (some ⟨g, o, none⟩) n c) := by rw [hw1]; go_simp
  have q3 : w1.cell? ⟨w.heap.size + 1, 0, none⟩ = some (.int .i64 X) := by rw [hw1]; go_simp
  have q4 : w1.cell? ⟨w.heap.size + 1, 1, none⟩ = some (.int .i64 Y) := by rw [hw1]; go_simp
  have q5 : w1.cell? ⟨w.heap.size + 1, 2, none⟩ = some (.int .i64 bw) := by rw [hw1]; go_simp
  have q6 : w1.cell? ⟨w.heap.size + 1, 3, none⟩ = some (.int .i64 bh) := by rw [hw1]; go_simp
  have qb : w1.heap[w.heap.size + 1 + 1]? = some (.cells #[.int .i64 0, .int .i64 0, .slice none 0 0] 24 (0, 0)) := by
    rw [hw1, Below.heap_alloc _ _ _ (by simp), Below.heap_alloc _ _ _ (by simp)]
    simpa using heap_alloc_new ((w.alloc (.cells #[.int .i64 W, .int .i64 H, .slice (some ⟨g, o, none⟩) n c] 24)).alloc (.cells #[.int .i64 X, .int .i64 Y, .int .i64 bw, .int .i64 bh] 29)) (.cells #[.int .i64 0, .int .i64 0, .slice none 0 0] 24)
  rw [← hw1]
  clear hw1
  have lt3 := Lib.hid (Array.getElem?_eq_some_iff.1 qb).1
  have ne1 := Lib.hid (show w.heap.size ≠ w.heap.size + 1 + 1 by omega)
  have ne2 := Lib.hid (show w.heap.size + 1 ≠ w.heap.size + 1 + 1 by omega)
  have HW := Lib.hid (cutB_any W H X Y bw bh g o n c z w1.drew (by omega) (by omega) hX hY hb1 hb2 HN.out hN (fun j hj => cell_later B1.drew (HC.out j hj)))
  go_region_held3 (fun w' => w'.cell? ⟨w.heap.size, 0, none⟩ = some (.int .i64 W) ∧ w'.cell? ⟨w.heap.size, 2, none⟩ = some (.slice (some ⟨g, o, none⟩) n c) ∧ w'.cell? ⟨w.heap.size + 1, 0, none⟩ = some (.int .i64 X) ∧ w'.cell? ⟨w.heap.size + 1, 1, none⟩ = some (.int .i64 Y) ∧ w'.cell? ⟨w.heap.size + 1, 2, none⟩ = some (.int .i64 bw) ∧ w'.cell? ⟨w.heap.size + 1, 3, none⟩ = some (.int .i64 bh))
    (first | (go_keep; done) | (go_split_ands; exact ⟨cell_later hb5 (by assumption), cell_later hb5 (by assumption), cell_later hb5 (by assumption), cell_later hb5 (by assumption), cell_later hb5 (by assumption), cell_later hb5 (by assumption)⟩) | (go_split_ands; exact ⟨cell_far3 ne1.out (by assumption), cell_far3 ne1.out (by assumption), cell_far3 ne2.out (by assumption), cell_far3 ne2.out (by assumption), cell_far3 ne2.out (by assumption), cell_far3 ne2.out (by assumption)⟩))
    ((first | (go_at_call 106; refine HW.out.mono ?_; rintro e w5 ⟨v, rfl, hown5, hb5⟩; have hq5 := block3 (below_block (below_step (Below.refl _ _).drew hb5) qb); obtain ⟨j0, j1, j2, r0, r1, r2⟩ := hq5; have vs : ∃ a n c, v = .slice a n c := owns_shape hown5; obtain ⟨va, vn, vc, hv⟩ := vs; subst hv)))
  go_wp2_with fail
  refine bodyPost_ret (v := .tuple #[.agg #[.int .i64 bw, .int .i64 bh, .slice va vn vc], .int .i64 0]) (by simp [results, Try.results23, go_sem, j0, j1, j2]) rfl ⟨_, rfl, ?_, ?_⟩
  · exact owns_far3 hown5 lt3.out B1.size
  · exact below_far3 (below_step B1.drew hb5) (by omega)

end Go.Proofs.Ytejhmobpepllcaa
