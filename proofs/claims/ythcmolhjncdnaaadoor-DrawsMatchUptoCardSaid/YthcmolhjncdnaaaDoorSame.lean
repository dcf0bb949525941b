/-
  Contracts of noBits, SameBits and bitsIs, where they answer true.
-/
import Derived.Test.YthcmolhjncdnaaaDoorMade
import Derived.Test.YthcmolhjncdnaaaDoorEqB
namespace Go.Proofs.YthcmolhjncdnaaaDoor
open Go.RowKit
set_option linter.unusedSimpArgs false
set_option linter.unusedVariables false
attribute [local go_sem ↓] Go.wp_at_zero Go.wp_at_succ

theorem noBits_zero (w : World) : Calls Tryd.prog 25 #[.agg #[.int .i64 0, .int .i64 0, .slice none 0 0]] w fun e w' => e = .returned (.bool true) ∧ Below w.heap.size w w' := by
  go_enter Tryd.func25, Tryd.ntmps25
  go_wp2
  go_ret
  exact ⟨rfl, new_below _ _⟩

theorem sameBits_true (W H : Int) (g1 o1 g2 o2 n c1 c2 : Nat) (z : Nat → Bool) (w : World) (hn : n ≤ 100000000)
    (h1 : ∀ j, j < n → w.cell? ⟨g1, o1 + j, none⟩ = some (.bool (z j))) (h2 : ∀ j, j < n → w.cell? ⟨g2, o2 + j, none⟩ = some (.bool (z j))) :
    Calls Tryd.prog 26 #[.agg #[.int .i64 W, .int .i64 H, .slice (some ⟨g1, o1, none⟩) n c1], .agg #[.int .i64 W, .int .i64 H, .slice (some ⟨g2, o2, none⟩) n c2]] w fun e w' => e = .returned (.bool true) ∧ Below w.heap.size w w' := by
  have HE := Lib.hid (equalBool_true g1 o1 g2 o2 n c1 c2 z ((w.alloc (.cells #[.int .i64 W, .int .i64 H, .slice (some ⟨g1, o1, none⟩) n c1] 24)).alloc (.cells #[.int .i64 W, .int .i64 H, .slice (some ⟨g2, o2, none⟩) n c2] 24)) hn
    (fun j hj => cell_later (below_alloc (new_below _ _) _) (h1 j hj)) (fun j hj => cell_later (below_alloc (new_below _ _) _) (h2 j hj)))
  clear h1 h2
  go_enter Tryd.func26, Tryd.ntmps26
  go_wp2_with (go_at_call 49; refine HE.out.mono ?_; rintro e w1 ⟨rfl, q, rfl⟩)
  go_ret
  exact ⟨rfl, below_drewN (below_alloc (new_below _ _) _) q⟩

theorem bitsIs_err (e1 : Int) (cl : Value) (w : World) (h : e1 ≠ 0) : Calls Tryd.prog 10 #[.agg #[.int .i64 0, .int .i64 0, .slice none 0 0], .int .i64 e1, .int .i64 e1, cl] w fun e w' => e = .returned (.bool true) ∧ Below w.heap.size w w' := by
  have h' : (e1 != 0) = true := by simpa using h
  clear h
  go_enter Tryd.func10, Tryd.ntmps10
  go_wp2_with (go_at_call 25; refine (noBits_zero _).mono ?_; rintro e w1 ⟨rfl, hb1⟩)
  go_ret
  exact ⟨rfl, below_step (new_below _ _) hb1⟩

/-- A page in memory: W by H, its places in cells as z tells. -/
def PageB (w : World) (v : Value) (W H : Int) (n : Nat) (z : Nat → Bool) : Prop :=
  ∃ g o c, v = .agg #[.int .i64 W, .int .i64 H, .slice (some ⟨g, o, none⟩) n c] ∧ ∀ j, j < n → w.cell? ⟨g, o + j, none⟩ = some (.bool (z j))

set_option maxHeartbeats 800000 in
set_option maxRecDepth 100000 in
theorem bitsIs_ok (W H : Int) (g1 o1 n c1 f : Nat) (capt : Array Value) (z : Nat → Bool) (w : World) (hn : n ≤ 100000000)
    (eg : ∀ (args : Array Value) (W : World), (callFunc f args).run Tryd.prog W = .ok (.enter f args) W)
    (h1 : ∀ j, j < n → w.cell? ⟨g1, o1 + j, none⟩ = some (.bool (z j)))
    (hc : ∀ wx, Below w.heap.size w wx → Calls Tryd.prog f capt wx fun e w' => ∃ v, e = .returned v ∧ PageB w' v W H n z ∧ Below wx.heap.size wx w') :
    Calls Tryd.prog 10 #[.agg #[.int .i64 W, .int .i64 H, .slice (some ⟨g1, o1, none⟩) n c1], .int .i64 0, .int .i64 0, .func (.func f) #[] capt] w fun e w' => e = .returned (.bool true) ∧ Below w.heap.size w w' := by
  have H1 := Lib.hid h1
  have HC := Lib.hid hc
  clear h1 hc
  go_enter Tryd.func10, Tryd.ntmps10
  go_wp2_with fail
  obtain ⟨w1, hw1⟩ : ∃ w1, w1 = w.alloc (.cells #[.int .i64 W, .int .i64 H, .slice (some ⟨g1, o1, none⟩) n c1] 24) := ⟨_, rfl⟩
  have B1 : Below w.heap.size w w1 := by rw [hw1]; exact new_below _ _
  obtain ⟨k0, k1, k2, _, _, _⟩ := block3 (w := w1) (b := w.heap.size) (x := .int .i64 W) (y := .int .i64 H) (z := .slice (some ⟨g1, o1, none⟩) n c1) (t := 24) (by rw [hw1]; exact heap_alloc_new _ _)
  rw [← hw1]
  clear hw1
  go_region_held3 (fun w' => w'.cell? ⟨w.heap.size, 0, none⟩ = some (.int .i64 W) ∧ w'.cell? ⟨w.heap.size, 1, none⟩ = some (.int .i64 H) ∧ w'.cell? ⟨w.heap.size, 2, none⟩ = some (.slice (some ⟨g1, o1, none⟩) n c1))
    (first | (go_keep; done) | (go_split_ands; exact ⟨cell_later hb5 (by assumption), cell_later hb5 (by assumption), cell_later hb5 (by assumption)⟩) | (go_split_ands; exact ⟨cell_later hb6 (by assumption), cell_later hb6 (by assumption), cell_later hb6 (by assumption)⟩))
    ((first | (go_at_fn f; refine (HC.out _ B1.drew).mono ?_; rintro e w5 ⟨v, rfl, hpg, hb5⟩; obtain ⟨g2, o2, c2, rfl, hz⟩ := hpg; have HZ := Lib.hid hz; clear hz) | (go_at_call 26; refine (sameBits_true W H g1 o1 g2 o2 n c1 c2 z w5 hn (fun j hj => cell_later (below_step B1.drew hb5) (H1.out j hj)) HZ.out).mono ?_; rintro e w6 ⟨rfl, hb6⟩)))
  go_wp2_with fail
  go_ret
  exact ⟨rfl, below_step (below_step B1.drew hb5) hb6⟩

end Go.Proofs.YthcmolhjncdnaaaDoor
