/-
  LeansMatch returns true for every page and every n, and each argument reads afterwards as it read before. No conditions.
-/
import Derived.Test.YtofcojcfcpfdmaaRows
import Derived.WalkKit
import Derived.WalkSpells
import Derived.WalkLawsBesides
import Derived.Lib.Hide
import Derived.Deep.RegionHeld3
import Derived.Shelf.Abstract
import Derived.Deep.AppendLies
import Derived.Deep.DrawnRows
import Derived.Deep.RegionLaw
import Derived.Deep.QuietTactic
import Derived.BigQuiet
import Derived.ProofKit
import Derived.OpenShut
import Derived.ShutString
import Derived.ChangeOld
import Derived.Lib.SmallJoins
import Derived.Deep.Grids
import Derived.Deep.DeepCutAuto
import Derived.Lib.MinMax
import Derived.Deep.CutRange
import Derived.Laws.EntriesVeiled
import Derived.StillTailTactics
import Derived.RegionTactic
import Derived.ChangeAlike
import Derived.BigRegion
import Derived.Test.YtofcojcfcpfdmaaCLeans3
namespace Go.Proofs.Ytofcojcfcpfdmaa
open Go.RowKit
set_option linter.unusedSimpArgs false
set_option linter.unusedVariables false

theorem small_any (a b : Int) (w : World) (h : sizeErr a b = 0) : Calls Try.prog 33 #[.int .i64 a, .int .i64 b] w fun e w' => ∃ q, e = .returned (.bool q) ∧ w = w' := by
  obtain ⟨_, z0, z1⟩ := sizeErr_zero h
  have hw : wrap64 (a * b) = a * b := by unfold wrap64; omega
  clear h
  by_cases h1 : a ≤ 200
  · by_cases h2 : b ≤ 200
    · go_enter Try.func33, Try.ntmps33
      go_wp2_with ((go_at_call 43; refine (in_yes _ _ _ _ (by omega)).mono ?_; rintro e w' ⟨rfl, rfl⟩))
      go_ret
      exact ⟨_, rfl, rfl⟩
    · go_enter Try.func33, Try.ntmps33
      go_wp2_with (first | (go_at_call 43; refine (in_yes _ _ _ _ (by omega)).mono ?_; rintro e w' ⟨rfl, rfl⟩) | (go_at_call 43; refine (in_no _ _ _ _ (by omega)).mono ?_; rintro e w' ⟨rfl, rfl⟩))
      go_ret
      exact ⟨_, rfl, rfl⟩
  · go_enter Try.func33, Try.ntmps33
    go_wp2_with (first | (go_at_call 43; refine (in_no _ _ _ _ (by omega)).mono ?_; rintro e w' ⟨rfl, rfl⟩))
    go_ret
    exact ⟨_, rfl, rfl⟩

/-- What a halved page is, in memory: nothing with an error; else the means. -/
def HalveIs (a b : Int) (n : Nat) (z : Nat → Int) (B : Nat) (w : World) (i j : Int) (sl : Option Addr) (n' c' : Nat) : Prop :=
  (pageErr a b n ≠ 0 ∧ i = 0 ∧ j = 0 ∧ sl = none ∧ n' = 0 ∧ c' = 0) ∨
  (pageErr a b n = 0 ∧ i = (((a.toNat + 1) / 2 : Nat) : Int) ∧ j = (((b.toNat + 1) / 2 : Nat) : Int) ∧ n' = (a.toNat + 1) / 2 * ((b.toNat + 1) / 2) ∧ ∃ g, B ≤ g ∧ sl = some ⟨g, 0, none⟩ ∧ ∀ k, k < n' → w.cell? ⟨g, 0 + k, none⟩ = some (.int .u8 (mean4 z a.toNat b.toNat (k % ((a.toNat + 1) / 2)) (k / ((a.toNat + 1) / 2)))))

theorem HalveIs.later {a b : Int} {n : Nat} {z : Nat → Int} {B : Nat} {w w' : World} {i j : Int} {sl : Option Addr} {n' c' : Nat} (h : HalveIs a b n z B w i j sl n' c') (hb : Below w.heap.size w w') : HalveIs a b n z B w' i j sl n' c' := by
  rcases h with h | ⟨h1, h2, h3, h4, g, h5, h6, h7⟩
  · exact .inl h
  · exact .inr ⟨h1, h2, h3, h4, g, h5, h6, fun k hk => cell_later hb (h7 k hk)⟩

/-- The error of pasting. -/
def pasteErr (a1 b1 : Int) (n1 : Nat) (a2 b2 : Int) (n2 : Nat) : Int := orI (pageErr a1 b1 n1) (pageErr a2 b2 n2)

/-- What a pasted page is, in memory. -/
def PasteIs (a1 b1 : Int) (n1 : Nat) (a2 b2 : Int) (n2 : Nat) (x y : Int) (z1 z2 : Nat → Bool) (B : Nat) (w : World) (i j : Int) (sl : Option Addr) (n' c' : Nat) : Prop :=
  (pasteErr a1 b1 n1 a2 b2 n2 ≠ 0 ∧ i = 0 ∧ j = 0 ∧ sl = none ∧ n' = 0 ∧ c' = 0) ∨
  (pasteErr a1 b1 n1 a2 b2 n2 = 0 ∧ i = a1 ∧ j = b1 ∧ n' = n1 ∧ ∃ g, B ≤ g ∧ sl = some ⟨g, 0, none⟩ ∧ ∀ k, k < n' → w.cell? ⟨g, 0 + k, none⟩ = some (.bool (pasteAt a1.toNat a2.toNat b2.toNat x y z1 z2 (k % a1.toNat) (k / a1.toNat))))

theorem PasteIs.later {a1 b1 : Int} {n1 : Nat} {a2 b2 : Int} {n2 : Nat} {x y : Int} {z1 z2 : Nat → Bool} {B : Nat} {w w' : World} {i j : Int} {sl : Option Addr} {n' c' : Nat} (h : PasteIs a1 b1 n1 a2 b2 n2 x y z1 z2 B w i j sl n' c') (hb : Below w.heap.size w w') : PasteIs a1 b1 n1 a2 b2 n2 x y z1 z2 B w' i j sl n' c' := by
  rcases h with h | ⟨h1, h2, h3, h4, g, h5, h6, h7⟩
  · exact .inl h
  · exact .inr ⟨h1, h2, h3, h4, g, h5, h6, fun k hk => cell_later hb (h7 k hk)⟩

end Go.Proofs.Ytofcojcfcpfdmaa
namespace Go.Proofs.Ytofcojcfcpfdmaa
open Go.RowKit
set_option linter.unusedSimpArgs false
set_option linter.unusedVariables false

theorem leanError_any (n low : Int) (w : World) : Calls Try.prog 28 #[.int .i64 n, .int .i64 low] w fun e w' => e = .returned (.int .i64 (leanErr n low)) ∧ w = w' := by
  by_cases h : low ≤ n ∧ n ≤ 256
  · have e1 : leanErr n low = 0 := by unfold leanErr; rw [if_pos h]
    have H1 := Lib.hid h
    rw [e1]
    clear h e1
    go_enter Try.func28, Try.ntmps28
    go_wp2_with (first | (go_at_call 43; refine (in_yes _ _ _ _ H1.out).mono ?_; rintro e w' ⟨rfl, rfl⟩) | (go_at_call 12; refine (when_any _ _ _).mono ?_; rintro e w' ⟨rfl, rfl⟩))
    go_ret
    exact ⟨rfl, rfl⟩
  · have e1 : leanErr n low = 3 := by unfold leanErr; rw [if_neg h]
    have H1 := Lib.hid h
    rw [e1]
    clear h e1
    go_enter Try.func28, Try.ntmps28
    go_wp2_with (first | (go_at_call 43; refine (in_no _ _ _ _ H1.out).mono ?_; rintro e w' ⟨rfl, rfl⟩) | (go_at_call 12; refine (when_any _ _ _).mono ?_; rintro e w' ⟨rfl, rfl⟩))
    go_ret
    exact ⟨rfl, rfl⟩

theorem one_score : sqSum (profV (inkQ (fun _ => true) 1) 1 1 0) (2 * 1) = 1 := by decide

theorem skews_any (w : World) : Calls Try.prog 32 #[] w fun e w' => e = .returned (.bool true) ∧ Below w.heap.size w w' := by
  have hcell : ∀ j, j < 1 * 1 → (w.alloc (.cells #[.bool true] 4)).cell? ⟨w.heap.size, 0 + j, none⟩ = some (.bool ((fun _ => true) j)) := fun j hj => by
    have : j = 0 := by omega
    subst this
    go_simp
  have HS := Lib.hid (score_ok 1 1 w.heap.size 0 1 0 (fun _ => true) (w.alloc (.cells #[.bool true] 4)) (by decide) (by omega) hcell)
  clear hcell
  rw [one_score] at HS
  go_enter Try.func32, Try.ntmps32
  go_wp2_with fail
  refine HS.out.mono ?_
  rintro e w2 ⟨rfl, hb2⟩
  have G := Lib.hid (below_step (new_below w _) hb2)
  clear hb2
  go_wp2_with fail
  go_ret
  exact ⟨rfl, G.out⟩

theorem lean_want {a b n : Int} {k : Nat} : orI (pageErr a b k) (leanErr n (-256)) = 0 → pageErr a b k = 0 ∧ (-256 ≤ n ∧ n ≤ 256) := by
  unfold orI leanErr
  intro h
  by_cases h1 : pageErr a b k = 0
  · rw [if_pos h1] at h
    by_cases h2 : -256 ≤ n ∧ n ≤ 256
    · exact ⟨h1, h2⟩
    · rw [if_neg h2] at h; simp at h
  · rw [if_neg h1] at h; exact absurd h h1

set_option maxHeartbeats 2000000 in
set_option maxRecDepth 100000 in
theorem leans_bad (a b n : Int) (s : Option Addr) (k c : Nat) (w : World) (h : orI (pageErr a b k) (leanErr n (-256)) ≠ 0) :
    Calls Try.prog 5 #[.agg #[.int .i64 a, .int .i64 b, .slice s k c], .int .i64 n] w fun e w' => e = .returned (.bool true) ∧ Below w.heap.size w w' := by
  have H0 := Lib.hid h
  obtain ⟨q, hq⟩ : ∃ q, q = orI (pageErr a b k) (leanErr n (-256)) := ⟨_, rfl⟩
  have t1 : (q != 0) = true := by rw [hq]; simpa using h
  have t2 : (q == 0) = false := by rw [hq]; simpa using h
  have HQ := Lib.hid hq
  clear h hq
  go_enter Try.func5, Try.ntmps5
  go_upto_region 2 with (first | (go_at_call 27; ((with_reducible refine (bitsError_any _ _ _ _ _ _).mono ?_); rintro e w1 ⟨rfl, hb1⟩)) | (go_at_call 28; refine (leanError_any _ _ _).mono ?_; rintro e w' ⟨rfl, rfl⟩) | (go_at_call 11; refine (first2_new _ _ _).mono ?_; rintro e w' ⟨rfl, rfl⟩))
  have b1 := below_alloc (below_step (new_below w (.cells #[.int .i64 a, .int .i64 b, .slice s k c] 40)) hb1) (.cells #[.int .i64 (pageErr a b k), .int .i64 (leanErr n (-256))] 27)
  have q1 := below_block (below_alloc hb1 (.cells #[.int .i64 (pageErr a b k), .int .i64 (leanErr n (-256))] 27)) (heap_alloc_new w (.cells #[.int .i64 a, .int .i64 b, .slice s k c] 40))
  obtain ⟨w2, hw2⟩ : ∃ w2, w2 = w1.alloc (.cells #[.int .i64 (pageErr a b k), .int .i64 (leanErr n (-256))] 27) := ⟨_, rfl⟩
  rw [← hw2] at b1 q1 ⊢
  rw [← HQ.out]
  obtain ⟨p0, p1, p2, _, _, _⟩ := block3 q1
  have B2 := Lib.hid b1
  have Q2 := Lib.hid q1
  clear hw2 b1 q1 hb1
  go_wp2_with fail
  refine (lean_bad a b n s k c w2 H0.out).mono ?_
  rintro e w3 ⟨rfl, hb3⟩
  rw [← HQ.out]
  have B3 := Lib.hid (below_step B2.out hb3)
  have Q3 := Lib.hid (below_block hb3 Q2.out)
  clear hb3 p0 p1 p2 B2 Q2
  go_upto_region 3 with (fail)
  obtain ⟨w4, hw4⟩ : ∃ w4, w4 = w3.alloc (.cells #[.int .i64 0, .int .i64 0, .slice none 0 0] 40) := ⟨_, rfl⟩
  have hb4 : Below w3.heap.size w3 w4 := by rw [hw4]; exact new_below _ _
  have x4 : w4.heap[w3.heap.size]? = some (.cells #[.int .i64 0, .int .i64 0, .slice none 0 0] 40 (0, 0)) := by rw [hw4]; exact heap_alloc_new _ _
  rw [← hw4]
  clear hw4
  have B4 := Lib.hid (below_step B3.out hb4)
  have Q4 := Lib.hid (below_block hb4 Q3.out)
  have X4 := Lib.hid x4
  obtain ⟨p0, p1, p2, _, _, _⟩ := block3 Q4.out
  clear hb4 x4 B3 Q3
  go_wp2_with fail
  refine (slant_bad a b n s k c w4 H0.out).mono ?_
  rintro e w5 ⟨rfl, hb5⟩
  rw [← HQ.out]
  have B5 := Lib.hid (below_step B4.out hb5)
  have Q5 := Lib.hid (below_block hb5 Q4.out)
  have X5 := Lib.hid (below_block hb5 X4.out)
  clear hb5 p0 p1 p2 B4 Q4 X4
  go_upto_region 4 with (fail)
  obtain ⟨w6, hw6⟩ : ∃ w6, w6 = w5.alloc (.cells #[.int .i64 0, .int .i64 0, .slice none 0 0] 40) := ⟨_, rfl⟩
  have hb6 : Below w5.heap.size w5 w6 := by rw [hw6]; exact new_below _ _
  have y6 : w6.heap[w5.heap.size]? = some (.cells #[.int .i64 0, .int .i64 0, .slice none 0 0] 40 (0, 0)) := by rw [hw6]; exact heap_alloc_new _ _
  rw [← hw6]
  clear hw6
  have B6 := Lib.hid (below_step B5.out hb6)
  have Q6 := Lib.hid (below_block hb6 Q5.out)
  have X6 := Lib.hid (below_block hb6 X5.out)
  have Y6 := Lib.hid y6
  obtain ⟨p0, p1, p2, _, _, _⟩ := block3 Q6.out
  clear hb6 y6 B5 Q5 X5
  go_wp2_with fail
  refine (profile_bad a b n s k c w6 H0.out).mono ?_
  rintro e w7 ⟨rfl, hb7⟩
  rw [← HQ.out]
  have B7 := Lib.hid (below_step B6.out hb7)
  have Q7 := Lib.hid (below_block hb7 Q6.out)
  have X7 := Lib.hid (below_block hb7 X6.out)
  have Y7 := Lib.hid (below_block hb7 Y6.out)
  clear hb7 p0 p1 p2 B6 Q6 X6 Y6
  obtain ⟨p0, p1, p2, _, _, _⟩ := block3 Q7.out
  go_wp2_with fail
  refine (score_bad a b n s k c w7 H0.out).mono ?_
  rintro e w8 ⟨rfl, hb8⟩
  rw [← HQ.out]
  have B8 := Lib.hid (below_step B7.out hb8)
  have X8 := Lib.hid (below_block hb8 X7.out)
  have Y8 := Lib.hid (below_block hb8 Y7.out)
  clear hb8 p0 p1 p2 B7 Q7 X7 Y7
  go_wp2_with fail
  refine (skews_any w8).mono ?_
  rintro e w9 ⟨rfl, hb9⟩
  have B9 := Lib.hid (below_step B8.out hb9)
  have X9 := Lib.hid (below_block hb9 X8.out)
  have Y9 := Lib.hid (below_block hb9 Y8.out)
  clear hb9 B8 X8 Y8
  obtain ⟨p0, p1, p2, _, _, _⟩ := block3 X9.out
  go_wp2_with fail
  refine (noBits_zero w9).mono ?_
  rintro e w10 ⟨rfl, hb10⟩
  have B10 := Lib.hid (below_step B9.out hb10)
  have Y10 := Lib.hid (below_block hb10 Y9.out)
  clear hb10 B9 X9 Y9 p0 p1 p2
  obtain ⟨p0, p1, p2, _, _, _⟩ := block3 Y10.out
  have t3 : (q == q) = true := by simp
  go_wp2_with fail
  refine (noBits_zero w10).mono ?_
  rintro e w11 ⟨rfl, hb11⟩
  have B11 := Lib.hid (below_step B10.out hb11)
  clear hb11 p0 p1 p2 Y10 B10
  go_wp2_with fail
  go_ret
  exact ⟨rfl, B11.out⟩

def leanZ (W H : Nat) (z : Nat → Bool) (n : Int) (j : Nat) : Bool := atB W H z ((j % W : Nat) : Int) (((j / W : Nat) : Int) - fallV W n (j % W))
def slantZ (W H : Nat) (z : Nat → Bool) (n : Int) (j : Nat) : Bool := atB W H z (((j % W : Nat) : Int) - fallV H (-n) (j / W)) ((j / W : Nat) : Int)
theorem equalInt_b (g1 o1 g2 o2 n c1 c2 : Nat) (z : Nat → Int) (w : World) (hn : n ≤ 100000000)
    (h1 : ∀ j, j < n → w.cell? ⟨g1, o1 + j, none⟩ = some (.int .i64 (z j))) (h2 : ∀ j, j < n → w.cell? ⟨g2, o2 + j, none⟩ = some (.int .i64 (z j))) :
    Calls Try.prog 39 #[.slice (some ⟨g1, o1, none⟩) n c1, .slice (some ⟨g2, o2, none⟩) n c2] w fun e w' => e = .returned (.bool true) ∧ Below w.heap.size w w' := by
  refine (equalInt_true g1 o1 g2 o2 n c1 c2 z w hn h1 h2).mono ?_
  rintro e w' ⟨rfl, q, rfl⟩
  exact ⟨rfl, below_drewN (Below.refl _ _) q⟩
theorem leanS_any (W H g o c : Nat) (n : Int) (z : Nat → Bool) (w : World) (hs : sizeErr W H = 0) (hn : -256 ≤ n ∧ n ≤ 256) (hp : ∀ j, j < W * H → w.cell? ⟨g, o + j, none⟩ = some (.bool (z j))) :
    Calls Try.prog 22 #[.agg #[.int .i64 W, .int .i64 H, .slice (some ⟨g, o, none⟩) (W * H) c], .int .i64 n] w fun e w' =>
      ∃ g' c', e = .returned (.tuple #[.agg #[.int .i64 W, .int .i64 H, .slice (some ⟨g', 0, none⟩) (W * H) c'], .int .i64 0]) ∧ (∀ j, j < W * H → w'.cell? ⟨g', 0 + j, none⟩ = some (.bool (leanZ W H z n j))) ∧ Below w.heap.size w w' := by
  obtain ⟨⟨a1, a2, a3, a4⟩, _, _⟩ := sizeErr_zero hs
  refine (lean_ok W H g o c n z w hs hn hp).mono ?_
  rintro e w' ⟨v, rfl, ho, hb⟩
  obtain ⟨g', c', rfl, _, hz⟩ := owns_pageB ho (Nat.mul_pos (by omega) (by omega))
  exact ⟨g', c', rfl, hz, hb⟩
theorem slantS_any (W H g o c : Nat) (n : Int) (z : Nat → Bool) (w : World) (hs : sizeErr W H = 0) (hn : -256 ≤ n ∧ n ≤ 256) (hp : ∀ j, j < W * H → w.cell? ⟨g, o + j, none⟩ = some (.bool (z j))) :
    Calls Try.prog 29 #[.agg #[.int .i64 W, .int .i64 H, .slice (some ⟨g, o, none⟩) (W * H) c], .int .i64 n] w fun e w' =>
      ∃ g' c', e = .returned (.tuple #[.agg #[.int .i64 W, .int .i64 H, .slice (some ⟨g', 0, none⟩) (W * H) c'], .int .i64 0]) ∧ (∀ j, j < W * H → w'.cell? ⟨g', 0 + j, none⟩ = some (.bool (slantZ W H z n j))) ∧ Below w.heap.size w w' := by
  obtain ⟨⟨a1, a2, a3, a4⟩, _, _⟩ := sizeErr_zero hs
  refine (slant_ok W H g o c n z w hs hn hp).mono ?_
  rintro e w' ⟨v, rfl, ho, hb⟩
  obtain ⟨g', c', rfl, _, hz⟩ := owns_pageB ho (Nat.mul_pos (by omega) (by omega))
  exact ⟨g', c', rfl, hz, hb⟩
theorem leanRf_any (W H g o c : Nat) (n : Int) (z : Nat → Bool) (w : World) (bW : 1 ≤ W ∧ W ≤ 4000) (bH : 1 ≤ H ∧ H ≤ 4000) (hN : W * H ≤ 1048576) (hn : -256 ≤ n ∧ n ≤ 256) (hp : ∀ j, j < W * H → w.cell? ⟨g, o + j, none⟩ = some (.bool (z j))) :
    Calls Try.prog 37 #[.agg #[.int .i64 W, .int .i64 H, .slice (some ⟨g, o, none⟩) (W * H) c], .int .i64 n] w fun e w' =>
      ∃ g' c', e = .returned (.agg #[.int .i64 W, .int .i64 H, .slice (some ⟨g', 0, none⟩) (W * H) c']) ∧ (∀ j, j < W * H → w'.cell? ⟨g', 0 + j, none⟩ = some (.bool (leanZ W H z n j))) ∧ Below w.heap.size w w' := by
  refine (leanR_ok W H g o c n z w bW bH hN hn hp).mono ?_
  rintro e w' ⟨v, rfl, ho, hb⟩
  obtain ⟨g', c', rfl, _, hz⟩ := owns_pageB ho (Nat.mul_pos (by omega) (by omega))
  exact ⟨g', c', rfl, hz, hb⟩
theorem slantRf_any (W H g o c : Nat) (n : Int) (z : Nat → Bool) (w : World) (bW : 1 ≤ W ∧ W ≤ 4000) (bH : 1 ≤ H ∧ H ≤ 4000) (hN : W * H ≤ 1048576) (hn : -256 ≤ n ∧ n ≤ 256) (hp : ∀ j, j < W * H → w.cell? ⟨g, o + j, none⟩ = some (.bool (z j))) :
    Calls Try.prog 38 #[.agg #[.int .i64 W, .int .i64 H, .slice (some ⟨g, o, none⟩) (W * H) c], .int .i64 n] w fun e w' =>
      ∃ g' c', e = .returned (.agg #[.int .i64 W, .int .i64 H, .slice (some ⟨g', 0, none⟩) (W * H) c']) ∧ (∀ j, j < W * H → w'.cell? ⟨g', 0 + j, none⟩ = some (.bool (slantZ W H z n j))) ∧ Below w.heap.size w w' := by
  refine (slantR_ok W H g o c n z w bW bH hN hn hp).mono ?_
  rintro e w' ⟨v, rfl, ho, hb⟩
  obtain ⟨g', c', rfl, _, hz⟩ := owns_pageB ho (Nat.mul_pos (by omega) (by omega))
  exact ⟨g', c', rfl, hz, hb⟩

set_option maxHeartbeats 4000000 in
set_option maxRecDepth 100000 in
theorem leans_ok (W H g o c : Nat) (n : Int) (z : Nat → Bool) (w : World) (hs : sizeErr W H = 0) (hn : -256 ≤ n ∧ n ≤ 256) (hp : ∀ j, j < W * H → w.cell? ⟨g, o + j, none⟩ = some (.bool (z j))) :
    Calls Try.prog 5 #[.agg #[.int .i64 W, .int .i64 H, .slice (some ⟨g, o, none⟩) (W * H) c], .int .i64 n] w fun e w' => e = .returned (.bool true) ∧ Below w.heap.size w w' := by
  obtain ⟨⟨a1, a2, a3, a4⟩, a5, a6⟩ := sizeErr_zero hs
  have hpe : pageErr W H (W * H) = 0 := by unfold pageErr; rw [if_pos hs, if_pos (by simp [Int.natCast_mul])]
  have hN : W * H ≤ 1048576 := by rw [← Int.natCast_mul] at a6; omega
  have hq : orI (pageErr W H (W * H)) (leanErr n (-256)) = 0 := by unfold orI leanErr; rw [if_pos hpe, if_pos hn]
  have HQ := Lib.hid hq
  have HC := Lib.hid hp
  have HN := Lib.hid hn
  have HS := Lib.hid hs
  have bW : 1 ≤ W ∧ W ≤ 4000 := by omega
  have bH : 1 ≤ H ∧ H ≤ 4000 := by omega
  clear hp hq hpe a5 a6 hs hn
  go_enter Try.func5, Try.ntmps5
  go_upto_region 2 with (first | (go_at_call 27; ((with_reducible refine (bitsError_any _ _ _ _ _ _).mono ?_); rintro e w1 ⟨rfl, hb1⟩)) | (go_at_call 28; refine (leanError_any _ _ _).mono ?_; rintro e w' ⟨rfl, rfl⟩) | (go_at_call 11; refine (first2_new _ _ _).mono ?_; rintro e w' ⟨rfl, rfl⟩))
  have b1 := below_alloc (below_step (new_below w (.cells #[.int .i64 W, .int .i64 H, .slice (some ⟨g, o, none⟩) (W * H) c] 40)) hb1) (.cells #[.int .i64 (pageErr W H (W * H)), .int .i64 (leanErr n (-256))] 27)
  have q1 := below_block (below_alloc hb1 (.cells #[.int .i64 (pageErr W H (W * H)), .int .i64 (leanErr n (-256))] 27)) (heap_alloc_new w (.cells #[.int .i64 W, .int .i64 H, .slice (some ⟨g, o, none⟩) (W * H) c] 40))
  obtain ⟨w2, hw2⟩ : ∃ w2, w2 = w1.alloc (.cells #[.int .i64 (pageErr W H (W * H)), .int .i64 (leanErr n (-256))] 27) := ⟨_, rfl⟩
  rw [← hw2] at b1 q1 ⊢
  rw [HQ.out]
  obtain ⟨p0, p1, p2, _, _, _⟩ := block3 q1
  have B2 := Lib.hid b1
  have Q2 := Lib.hid q1
  clear hw2 b1 q1 hb1
  go_wp2_with fail
  refine (leanS_any W H g o c n z w2 HS.out HN.out (fun j hj => cell_later B2.out (HC.out j hj))).mono ?_
  rintro e w3 ⟨gx, cx, rfl, hx3, hb3⟩
  have B3 := Lib.hid (below_step B2.out hb3)
  have Q3 := Lib.hid (below_block hb3 Q2.out)
  have HX3 := Lib.hid hx3
  clear hb3 p0 p1 p2 B2 Q2 hx3
  go_upto_region 3 with (fail)
  obtain ⟨w4, hw4⟩ : ∃ w4, w4 = w3.alloc (.cells #[.int .i64 W, .int .i64 H, .slice (some ⟨gx, 0, none⟩) (W * H) cx] 40) := ⟨_, rfl⟩
  have hb4 : Below w3.heap.size w3 w4 := by rw [hw4]; exact new_below _ _
  have x4 : w4.heap[w3.heap.size]? = some (.cells #[.int .i64 W, .int .i64 H, .slice (some ⟨gx, 0, none⟩) (W * H) cx] 40 (0, 0)) := by rw [hw4]; exact heap_alloc_new _ _
  rw [← hw4]
  clear hw4
  have B4 := Lib.hid (below_step B3.out hb4)
  have Q4 := Lib.hid (below_block hb4 Q3.out)
  have HX4 := Lib.hid (fun j hj => cell_later hb4 (HX3.out j hj))
  have X4 := Lib.hid x4
  obtain ⟨p0, p1, p2, _, _, _⟩ := block3 Q4.out
  clear hb4 x4 B3 Q3 HX3
  go_wp2_with fail
  refine (slantS_any W H g o c n z w4 HS.out HN.out (fun j hj => cell_later B4.out (HC.out j hj))).mono ?_
  rintro e w5 ⟨gy, cy, rfl, hy5, hb5⟩
  have B5 := Lib.hid (below_step B4.out hb5)
  have Q5 := Lib.hid (below_block hb5 Q4.out)
  have X5 := Lib.hid (below_block hb5 X4.out)
  have HX5 := Lib.hid (fun j hj => cell_later hb5 (HX4.out j hj))
  have HY5 := Lib.hid hy5
  clear hb5 p0 p1 p2 B4 Q4 X4 HX4 hy5
  go_upto_region 4 with (fail)
  obtain ⟨w6, hw6⟩ : ∃ w6, w6 = w5.alloc (.cells #[.int .i64 W, .int .i64 H, .slice (some ⟨gy, 0, none⟩) (W * H) cy] 40) := ⟨_, rfl⟩
  have hb6 : Below w5.heap.size w5 w6 := by rw [hw6]; exact new_below _ _
  have y6 : w6.heap[w5.heap.size]? = some (.cells #[.int .i64 W, .int .i64 H, .slice (some ⟨gy, 0, none⟩) (W * H) cy] 40 (0, 0)) := by rw [hw6]; exact heap_alloc_new _ _
  rw [← hw6]
  clear hw6
  have B6 := Lib.hid (below_step B5.out hb6)
  have Q6 := Lib.hid (below_block hb6 Q5.out)
  have X6 := Lib.hid (below_block hb6 X5.out)
  have HX6 := Lib.hid (fun j hj => cell_later hb6 (HX5.out j hj))
  have HY6 := Lib.hid (fun j hj => cell_later hb6 (HY5.out j hj))
  have Y6 := Lib.hid y6
  obtain ⟨p0, p1, p2, _, _, _⟩ := block3 Q6.out
  clear hb6 y6 B5 Q5 X5 HX5 HY5
  go_wp2_with fail
  refine (profileS_ok W H g o c n z w6 HS.out HN.out (fun j hj => cell_later B6.out (HC.out j hj))).mono ?_
  rintro e w7 ⟨v7, rfl, hown7, hb7⟩
  obtain ⟨gp, cp, rfl, _, hp7⟩ := owns_ints hown7 (by omega)
  have B7 := Lib.hid (below_step B6.out hb7)
  have Q7 := Lib.hid (below_block hb7 Q6.out)
  have X7 := Lib.hid (below_block hb7 X6.out)
  have Y7 := Lib.hid (below_block hb7 Y6.out)
  have HX7 := Lib.hid (fun j hj => cell_later hb7 (HX6.out j hj))
  have HY7 := Lib.hid (fun j hj => cell_later hb7 (HY6.out j hj))
  have HP7 := Lib.hid hp7
  clear hb7 p0 p1 p2 B6 Q6 X6 Y6 HX6 HY6 hp7 hown7
  obtain ⟨p0, p1, p2, _, _, _⟩ := block3 Q7.out
  go_wp2_with fail
  refine (score_ok W H g o c n z w7 HS.out HN.out (fun j hj => cell_later B7.out (HC.out j hj))).mono ?_
  rintro e w8 ⟨rfl, hb8⟩
  obtain ⟨S, hS⟩ : ∃ S, S = sqSum (profV (inkQ z W) W H n) (2 * H) := ⟨_, rfl⟩
  rw [← hS]
  have HSS := Lib.hid hS
  have B8 := Lib.hid (below_step B7.out hb8)
  have Q8 := Lib.hid (below_block hb8 Q7.out)
  have X8 := Lib.hid (below_block hb8 X7.out)
  have Y8 := Lib.hid (below_block hb8 Y7.out)
  have HX8 := Lib.hid (fun j hj => cell_later hb8 (HX7.out j hj))
  have HY8 := Lib.hid (fun j hj => cell_later hb8 (HY7.out j hj))
  have HP8 := Lib.hid (fun j hj => cell_later hb8 (HP7.out j hj))
  clear hb8 p0 p1 p2 B7 Q7 X7 Y7 HX7 HY7 HP7 hS
  go_wp2_with fail
  refine (skews_any w8).mono ?_
  rintro e w9 ⟨rfl, hb9⟩
  have B9 := Lib.hid (below_step B8.out hb9)
  have Q9 := Lib.hid (below_block hb9 Q8.out)
  have X9 := Lib.hid (below_block hb9 X8.out)
  have Y9 := Lib.hid (below_block hb9 Y8.out)
  have HX9 := Lib.hid (fun j hj => cell_later hb9 (HX8.out j hj))
  have HY9 := Lib.hid (fun j hj => cell_later hb9 (HY8.out j hj))
  have HP9 := Lib.hid (fun j hj => cell_later hb9 (HP8.out j hj))
  clear hb9 B8 Q8 X8 Y8 HX8 HY8 HP8
  obtain ⟨p0, p1, p2, _, _, _⟩ := block3 Q9.out
  go_wp2_with fail
  refine (small_any W H w9 HS.out).mono ?_
  rintro e w9' ⟨qs, rfl, rfl⟩
  cases qs
  · go_wp2_with fail
    refine (skews_any w9).mono ?_
    rintro e w10 ⟨rfl, hb10⟩
    have B10 := Lib.hid (below_step B9.out hb10)
    clear hb10
    go_wp2_with fail
    go_ret
    exact ⟨rfl, B10.out⟩
  · go_wp2_with fail
    refine (profileR_ok W H g o c n z w9 bW bH hN HN.out (fun j hj => cell_later B9.out (HC.out j hj))).mono ?_
    rintro e w10 ⟨v10, rfl, hown10, hb10⟩
    obtain ⟨gl, cl, rfl, _, hl10⟩ := owns_ints hown10 (by omega)
    have B10 := Lib.hid (below_step B9.out hb10)
    have HX10 := Lib.hid (fun j hj => cell_later hb10 (HX9.out j hj))
    have HY10 := Lib.hid (fun j hj => cell_later hb10 (HY9.out j hj))
    have HP10 := Lib.hid (fun j hj => cell_later hb10 (HP9.out j hj))
    have HL10 := Lib.hid hl10
    have HC10 := Lib.hid (fun j hj => cell_later B10.out (HC.out j hj))
    clear p0 p1 p2
    obtain ⟨p0, p1, p2, _, _, _⟩ := block3 (below_block hb10 Q9.out)
    obtain ⟨x0, x1, x2, _, _, _⟩ := block3 (below_block hb10 X9.out)
    obtain ⟨y0, y1, y2, _, _, _⟩ := block3 (below_block hb10 Y9.out)
    have l0 := World.block_lt_of_cell? _ _ p0
    have l1 := World.block_lt_of_cell? _ _ x0
    have l2 := World.block_lt_of_cell? _ _ y0
    simp only at l0 l1 l2
    clear hb10 hl10 hown10 B9 Q9 X9 Y9 HX9 HY9 HP9
    go_upto_region 11 with (fail)
    go_region_held3 (fun w' => w'.cell? ⟨w.heap.size, 0, none⟩ = some (.int .i64 W) ∧ w'.cell? ⟨w.heap.size, 1, none⟩ = some (.int .i64 H) ∧ w'.cell? ⟨w.heap.size, 2, none⟩ = some (.slice (some ⟨g, o, none⟩) (W * H) c) ∧
        w'.cell? ⟨w3.heap.size, 0, none⟩ = some (.int .i64 W) ∧ w'.cell? ⟨w3.heap.size, 1, none⟩ = some (.int .i64 H) ∧ w'.cell? ⟨w3.heap.size, 2, none⟩ = some (.slice (some ⟨gx, 0, none⟩) (W * H) cx) ∧
        w'.cell? ⟨w5.heap.size, 0, none⟩ = some (.int .i64 W) ∧ w'.cell? ⟨w5.heap.size, 1, none⟩ = some (.int .i64 H) ∧ w'.cell? ⟨w5.heap.size, 2, none⟩ = some (.slice (some ⟨gy, 0, none⟩) (W * H) cy))
      (first | (go_keep; done) | (go_split_ands; exact ⟨cell_later hb11 (by assumption), cell_later hb11 (by assumption), cell_later hb11 (by assumption), cell_later hb11 (by assumption), cell_later hb11 (by assumption), cell_later hb11 (by assumption), cell_later hb11 (by assumption), cell_later hb11 (by assumption), cell_later hb11 (by assumption)⟩) | (go_split_ands; exact ⟨cell_later hb12 (by assumption), cell_later hb12 (by assumption), cell_later hb12 (by assumption), cell_later hb12 (by assumption), cell_later hb12 (by assumption), cell_later hb12 (by assumption), cell_later hb12 (by assumption), cell_later hb12 (by assumption), cell_later hb12 (by assumption)⟩) | (go_split_ands; exact ⟨cell_later hb13 (by assumption), cell_later hb13 (by assumption), cell_later hb13 (by assumption), cell_later hb13 (by assumption), cell_later hb13 (by assumption), cell_later hb13 (by assumption), cell_later hb13 (by assumption), cell_later hb13 (by assumption), cell_later hb13 (by assumption)⟩) | (go_split_ands; exact ⟨cell_later hb14 (by assumption), cell_later hb14 (by assumption), cell_later hb14 (by assumption), cell_later hb14 (by assumption), cell_later hb14 (by assumption), cell_later hb14 (by assumption), cell_later hb14 (by assumption), cell_later hb14 (by assumption), cell_later hb14 (by assumption)⟩) | (go_split_ands; exact ⟨cell_later hb15 (by assumption), cell_later hb15 (by assumption), cell_later hb15 (by assumption), cell_later hb15 (by assumption), cell_later hb15 (by assumption), cell_later hb15 (by assumption), cell_later hb15 (by assumption), cell_later hb15 (by assumption), cell_later hb15 (by assumption)⟩))
      ((first | (go_at_call 37; ((with_reducible refine (leanRf_any W H g o c n z w10.drew bW bH hN HN.out (fun j hj => cell_later (Below.refl _ _).drew (HC10.out j hj))).mono ?_); rintro e w11 ⟨g11, c11, rfl, hz11, hb11⟩; have Z11 := Lib.hid hz11; clear hz11)) | (go_at_call 36; ((with_reducible refine (sameBits_true W H gx 0 g11 0 (W * H) cx c11 (leanZ W H z n) w11 (by omega) (fun j hj => cell_later (below_step (Below.refl _ _).drew hb11) (HX10.out j hj)) Z11.out).mono ?_); rintro e w12 ⟨rfl, hb12⟩)) | (go_at_call 38; ((with_reducible refine (slantRf_any W H g o c n z w12 bW bH hN HN.out (fun j hj => cell_later (below_step (below_step (Below.refl _ _).drew hb11) hb12) (HC10.out j hj))).mono ?_); rintro e w13 ⟨g13, c13, rfl, hz13, hb13⟩; have Z13 := Lib.hid hz13; clear hz13)) | (go_at_call 36; ((with_reducible refine (sameBits_true W H gy 0 g13 0 (W * H) cy c13 (slantZ W H z n) w13 (by omega) (fun j hj => cell_later (below_step (below_step (below_step (Below.refl _ _).drew hb11) hb12) hb13) (HY10.out j hj)) Z13.out).mono ?_); rintro e w14 ⟨rfl, hb14⟩)) | (go_at_call 39; ((with_reducible refine (equalInt_b gp 0 gl 0 (2 * H) cp cl _ w14 (by omega) (fun j hj => cell_later (below_step (below_step (below_step (below_step (Below.refl _ _).drew hb11) hb12) hb13) hb14) (HP10.out j hj)) (fun j hj => cell_later (below_step (below_step (below_step (below_step (Below.refl _ _).drew hb11) hb12) hb13) hb14) (HL10.out j hj))).mono ?_); rintro e w15 ⟨rfl, hb15⟩)) | (go_at_call 40; ((with_reducible refine (squareR_any (2 * H) gl 0 cl (profV (inkQ z W) W H n) w15 (by omega) (fun j => Nat.le_trans (profUp_le _ _ _ _ _ _) bW.2) (fun j hj => cell_later (below_step (below_step (below_step (below_step (below_step (Below.refl _ _).drew hb11) hb12) hb13) hb14) hb15) (HL10.out j hj))).mono ?_); rw [← HSS.out]; rintro e w16 ⟨rfl, rfl⟩))))
    have G := Lib.hid (below_step B10.out (below_step (below_step (below_step (below_step (below_step (Below.refl _ _).drew hb11) hb12) hb13) hb14) hb15))
    clear hb11 hb12 hb13 hb14 hb15
    go_wp2_with fail
    go_ret
    exact ⟨rfl, G.out⟩

theorem leans_any (a b n : Int) (s : Option Addr) (k c : Nat) (z : Nat → Bool) (w : World) (hs : IsBools w s k c z) :
    Calls Try.prog 5 #[.agg #[.int .i64 a, .int .i64 b, .slice s k c], .int .i64 n] w fun e w' => e = .returned (.bool true) ∧ Below w.heap.size w w' := by
  by_cases h : orI (pageErr a b k) (leanErr n (-256)) = 0
  · obtain ⟨h1, h2⟩ := lean_want h
    obtain ⟨W, H, rfl, rfl, rfl, w1, w2, h3, h4, hN, he⟩ := page_nat h1
    obtain ⟨g, o, rfl, hc⟩ := isBools_cells hs (Nat.mul_pos w1 h3)
    exact leans_ok W H g o c n z w he h2 hc
  · exact leans_bad a b n s k c w h

end Go.Proofs.Ytofcojcfcpfdmaa
namespace Go.Proofs.Ytofcojcfcpfdmaa
open Go.ChangeShapes Go.WideShapes Go.ChangeAt Go.RowKit Go.Joins
open Go.ChangeMaps (open_string shut_string)
set_option linter.unusedVariables false

set_option maxRecDepth 100000 in
theorem leans_lifted (os : Os) (started : os.Started) (H : Type) (enc : TypeId × Value → H) :
    ReturnsInHanded {} Try.checked os 5 .any (Rows.leansMatchSpec.pre6 enc Try.prog Try.f5 Rows.leansMatchRow.domain false) (Rows.leansMatchSpec.post enc Try.prog Try.f5 false true false false) := by
  refine returnsInHanded_of_change (C := Try.checked) own started (by kernel_rfl) Try.func5
    (ChangeSpec.witness6 (enc := enc) (C := Try.checked) false ⟨#[], #[.agg #[.int .i64 0, .int .i64 0, .slice none 0 0], .int .i64 0], []⟩ 8 (by kernel_rfl) (by kernel_rfl) (by kernel_rfl) (by kernel_rfl)) ?_
  intro W base args ds gs before hval0 hW hcnd _
  have hval : ∀ (j : Nat) t v, Try.f5.params[j]? = some t → args[j]? = some v → Value.okWide Try.prog W .any base t v := hval0
  have hW' := hW
  obtain ⟨p, q, hA0, hV, rfl, hfz, hnd⟩ := hW
  have hA : DataW.TrodAll enc Try.prog W 0 (fun _ => true) true Try.f5.params.toList args.toList ds p := hA0
  rw [Try.params5] at hA hval
  obtain ⟨v0, vs0, d0, ds0, p0, q0, hargs, rfl, rfl, h0, r0⟩ := trodAll_cons hA
  obtain ⟨v1, vs1, d1, ds1, p1, q1, rfl, rfl, rfl, h1, r1⟩ := trodAll_cons r0
  obtain ⟨rfl, rfl, rfl⟩ := trodAll_nil r1
  obtain rfl : args = #[v0, v1] := by cases args; simp_all
  obtain ⟨rfl, rfl⟩ := trodVars_none hV
  have k0 := h0
  have lt0 : ∀ x ∈ p0, x.block < W.heap.size := by obtain ⟨m, hm⟩ := k0; exact DataW.trod_lt m _ _ _ hm
  obtain ⟨a0, b0, s0, n0, c0, z0, rfl, hs0, hn0⟩ := open_bitsN (hval 0 40 v0 rfl rfl) h0
  obtain ⟨m1, rfl, rfl, rfl, w1⟩ := open_int Try.underlying3 (hval 1 3 v1 rfl rfl) h1
  clear hA0 hval0
  refine (leans_any a0 b0 m1 s0 n0 c0 z0 W hs0).mono fun e W' ⟨he, bel⟩ => ?_
  subst he
  exact ⟨_, rfl, _, _, _, [], _, [], hW', trodAll_mk1 (shut_bool Try.underlying4 _), (trodAll_cons_mk (Below.trod laidOut (by kernel_rfl) (of_decide_eq_true (by kernel_rfl)) k0 bel lt0) (trodAll_cons_mk (shut_int Try.underlying3 w1) trodAll_mk0)), rfl, bel.frame _, fun h => by cases h⟩

theorem leans_over : Rows.leansMatchRow.holds Try.pinned (OpenSpec.ofChange Rows.leansMatchSpec) :=
  OpenClaim.holds_of_wide 5 Try.f5 rfl rfl rfl rfl rfl rfl rfl ⟨rfl, rfl, rfl, rfl, rfl⟩ rfl rfl rfl rfl rfl (by kernel_rfl) Try.func5 (by kernel_rfl)
    (of_decide_eq_true (by kernel_rfl)) (by unfold Func.isWrapper; first | (rw [if_pos (by decide +kernel)]; kernel_rfl) | (rw [if_neg (by decide +kernel)]; exact ⟨rfl, rfl⟩))
    (fun os started H enc _ => leans_lifted os started H enc)

theorem leans_holds : Rows.LeansMatchSaid := leans_over
end Go.Proofs.Ytofcojcfcpfdmaa
