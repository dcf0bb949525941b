/-
  FindsMatch returns true for every page and every number, and each argument reads afterwards as it read before. No conditions.
-/
import Derived.Test.YtcpgnfbjdokdcaaRows
import Derived.WalkKit
import Derived.WalkSpells
import Derived.WalkLawsBesides
import Derived.Lib.Hide
import Derived.Deep.RegionHeld3
import Derived.Shelf.Abstract
import Derived.Deep.AppendLies
import Derived.Deep.DrawnRows
import Derived.Deep.RegionLaw
import Derived.Deep.QuietTactic
import Derived.BigQuiet
import Derived.ProofKit
import Derived.OpenShut
import Derived.ShutString
import Derived.ChangeOld
import Derived.Lib.SmallJoins
import Derived.Deep.Grids
import Derived.Deep.DeepCutAuto
import Derived.Lib.MinMax
import Derived.Deep.CutRange
import Derived.Laws.EntriesVeiled
import Derived.StillTailTactics
import Derived.RegionTactic
import Derived.ChangeAlike
import Derived.BigRegion
import Derived.Test.YtcpgnfbjdokdcaaCFinds6
namespace Go.Proofs.Ytcpgnfbjdokdcaa
open Go.RowKit
set_option linter.unusedSimpArgs false
set_option linter.unusedVariables false

theorem first3_new (x y u : Int) (w : World) :
    Calls Try.prog 22 #[.slice (some ⟨w.heap.size, 0, none⟩) 3 3] (w.alloc (.cells #[.int .i64 x, .int .i64 y, .int .i64 u] 30)) fun r w' => r = .returned (.int .i64 (orI x (orI y u))) ∧ w.alloc (.cells #[.int .i64 x, .int .i64 y, .int .i64 u] 30) = w' := by
  refine (first_any w.heap.size [x, y, u] _ (by simp) ?_).mono ?_
  · intro j hj
    match j, hj with
    | 0, _ => rw [World.cell?_alloc_at _ _ _ _ rfl]; rfl
    | 1, _ => rw [World.cell?_alloc_at _ _ _ _ rfl]; rfl
    | 2, _ => rw [World.cell?_alloc_at _ _ _ _ rfl]; rfl
  · rintro e w' ⟨rfl, rfl⟩
    refine ⟨ret_int ?_, rfl⟩
    simp only [firstOf, orI]
    by_cases hx : x = 0
    · by_cases hy : y = 0
      · by_cases hu : u = 0 <;> simp [hx, hy, hu]
      · simp [hx, hy]
    · simp [hx]

theorem want_bad {E L : Int} (h : E ≠ 0) (v : Int) : orI E (orI L v) = E := by unfold orI; rw [if_neg h]
theorem find_want (most : Int) (q : Bool) : orI 0 (orI (leanErr most 0) (whenI (!q) 10)) = findErr 0 most q := by
  unfold orI leanErr whenI findErr
  by_cases h : 0 ≤ most ∧ most ≤ 256
  · cases q <;> simp [h]
  · simp [h]
theorem bnd_want (q : Bool) : orI 0 (whenI (!q) 10) = bndErr 0 q := by
  unfold orI whenI bndErr; cases q <;> simp

set_option maxHeartbeats 2000000 in
set_option maxRecDepth 100000 in
theorem finds_bad0 (a b most : Int) (s : Option Addr) (k c : Nat) (z : Nat → Bool) (w : World) (hs : IsBools w s k c z) (h : findErr (pageErr a b k) most (anyInk z k) ≠ 0) (hE : pageErr a b k ≠ 0) :
    Calls Try.prog 8 #[.agg #[.int .i64 a, .int .i64 b, .slice s k c], .int .i64 most] w fun e w' => e = .returned (.bool true) ∧ Below w.heap.size w w' := by
  have HB := Lib.hid hs
  have H0 := Lib.hid h
  obtain ⟨Q, hQ⟩ : ∃ Q, Q = findErr (pageErr a b k) most (anyInk z k) := ⟨_, rfl⟩
  have t1 : (Q != 0) = true := by rw [hQ]; simpa using h
  have t2 : (Q == 0) = false := by rw [hQ]; simpa using h
  have t4 : (Q != Q) = false := by simp
  have HQ := Lib.hid hQ
  have t3 : (pageErr a b k == 0) = false := by simpa using hE
  have HW := Lib.hid (show orI (pageErr a b k) (orI (leanErr most 0) (whenI false 10)) = Q by rw [want_bad hE, hQ]; unfold findErr; rw [if_neg hE])
  have HBN := Lib.hid (show bndErr (pageErr a b k) (anyInk z k) ≠ 0 by unfold bndErr; rw [if_neg hE]; exact hE)
  have HW2 := Lib.hid (show orI (pageErr a b k) (whenI false 10) = bndErr (pageErr a b k) (anyInk z k) by unfold orI bndErr; rw [if_neg hE, if_neg hE])
  clear hE
  clear h hQ hs
  go_enter Try.func8, Try.ntmps8
  go_upto_region 2 with (first | (go_at_call 9; ((with_reducible refine (bitsError_any _ _ _ _ _ _).mono ?_); rintro e w1 ⟨rfl, hb1⟩)))
  have b1 := below_step (new_below w (.cells #[.int .i64 a, .int .i64 b, .slice s k c] 24)) hb1
  have q1 := below_block hb1 (heap_alloc_new w (.cells #[.int .i64 a, .int .i64 b, .slice s k c] 24))
  obtain ⟨p0, p1, p2, _, _, _⟩ := block3 q1
  go_wp2_with fail
  refine (boxR_any a b s k c z w1 (isBools_later HB.out b1)).mono ?_
  rintro e w2 ⟨X, Y, bw, bh, q, rfl, hq, hb2⟩
  go_upto_region 3 with (fail)
  obtain ⟨w3, hw3⟩ : ∃ w3, w3 = w2.alloc (.cells #[.int .i64 X, .int .i64 Y, .int .i64 bw, .int .i64 bh] 29) := ⟨_, rfl⟩
  have hb3 : Below w1.heap.size w1 w3 := by rw [hw3]; exact below_alloc hb2 _
  rw [← hw3]
  clear hw3
  have B3 := below_step b1 hb3
  have Q3 := below_block hb3 q1
  clear hb1 hb2 hb3 b1 q1 p0 p1 p2
  go_upto_region 4 with (first | (go_at_call 81; refine (leanError_any _ _ _).mono ?_; rintro e w' ⟨rfl, rfl⟩) | (go_at_call 23; refine (when_any _ _ _).mono ?_; rintro e w' ⟨rfl, rfl⟩) | (go_at_call 22; refine (first3_new _ _ _ _).mono ?_; rintro e w' ⟨rfl, rfl⟩))
  obtain ⟨w4, hw4⟩ : ∃ w4, w4 = w3.alloc (.cells #[.int .i64 (pageErr a b k), .int .i64 (leanErr most 0), .int .i64 (whenI false 10)] 30) := ⟨_, rfl⟩
  have hb4 : Below w3.heap.size w3 w4 := by rw [hw4]; exact new_below _ _
  rw [← hw4, HW.out]
  clear hw4
  have B4 := Lib.hid (below_step B3 hb4)
  have Q4 := Lib.hid (below_block hb4 Q3)
  obtain ⟨p0, p1, p2, _, _, _⟩ := block3 Q4.out
  clear hb4 B3 Q3
  go_wp2_with fail
  refine (find_bad a b most s k c z w4 (isBools_later HB.out B4.out) H0.out).mono ?_
  rintro e w5 ⟨rfl, hb5⟩
  rw [← HQ.out]
  have B5 := Lib.hid (below_step B4.out hb5)
  have Q5 := Lib.hid (below_block hb5 Q4.out)
  clear hb5 p0 p1 p2 B4 Q4
  obtain ⟨p0, p1, p2, _, _, _⟩ := block3 Q5.out
  go_wp2_with fail
  refine (straight_bad a b most s k c z w5 (isBools_later HB.out B5.out) H0.out).mono ?_
  rintro e w6 ⟨rfl, hb6⟩
  rw [← HQ.out]
  have B6 := Lib.hid (below_step B5.out hb6)
  have Q6 := Lib.hid (below_block hb6 Q5.out)
  clear hb6 p0 p1 p2 B5 Q5
  go_upto_region 6 with (fail)
  obtain ⟨w7, hw7⟩ : ∃ w7, w7 = w6.alloc (.cells #[.int .i64 0, .int .i64 0, .slice none 0 0] 24) := ⟨_, rfl⟩
  have hb7 : Below w6.heap.size w6 w7 := by rw [hw7]; exact new_below _ _
  have x7 : w7.heap[w6.heap.size]? = some (.cells #[.int .i64 0, .int .i64 0, .slice none 0 0] 24 (0, 0)) := by rw [hw7]; exact heap_alloc_new _ _
  rw [← hw7]
  clear hw7
  have B7 := Lib.hid (below_step B6.out hb7)
  have Q7 := Lib.hid (below_block hb7 Q6.out)
  have X7 := Lib.hid x7
  obtain ⟨p0, p1, p2, _, _, _⟩ := block3 Q7.out
  clear hb7 x7 B6 Q6
  go_wp2_with fail
  refine (findSlant_bad a b most s k c z w7 (isBools_later HB.out B7.out) H0.out).mono ?_
  rintro e w8 ⟨rfl, hb8⟩
  rw [← HQ.out]
  have B8 := Lib.hid (below_step B7.out hb8)
  have Q8 := Lib.hid (below_block hb8 Q7.out)
  have X8 := Lib.hid (below_block hb8 X7.out)
  clear hb8 p0 p1 p2 B7 Q7 X7
  go_wp2_with fail
  refine (skews_any w8).mono ?_
  rintro e w9 ⟨rfl, hb9⟩
  have B9 := Lib.hid (below_step B8.out hb9)
  have Q9 := Lib.hid (below_block hb9 Q8.out)
  have X9 := Lib.hid (below_block hb9 X8.out)
  clear hb9 B8 Q8 X8
  obtain ⟨p0, p1, p2, _, _, _⟩ := block3 X9.out
  go_wp2_with fail
  refine (noBits_zero w9).mono ?_
  rintro e w10 ⟨rfl, hb10⟩
  have B10 := Lib.hid (below_step B9.out hb10)
  have Q10 := Lib.hid (below_block hb10 Q9.out)
  clear hb10 p0 p1 p2 B9 Q9 X9
  obtain ⟨p0, p1, p2, _, _, _⟩ := block3 Q10.out
  go_wp2_with fail
  refine (upright_bad a b s k c z w10 (isBools_later HB.out B10.out) HBN.out).mono ?_
  rintro e w11 ⟨rfl, hb11⟩
  obtain ⟨U, hU⟩ : ∃ U, U = bndErr (pageErr a b k) (anyInk z k) := ⟨_, rfl⟩
  rw [← hU] at HBN HW2 ⊢
  have t5 : (U != 0) = true := by simpa using HBN.out
  have t6 : (U == U) = true := by simp
  have G := Lib.hid (below_step B10.out hb11)
  clear hb11 p0 p1 p2 B10 Q10 hU
  go_upto_region 19 with (first | (go_at_call 23; refine (when_any _ _ _).mono ?_; rintro e w' ⟨rfl, rfl⟩) | (go_at_call 22; refine (first2_new _ _ _).mono ?_; rintro e w' ⟨rfl, rfl⟩))
  rw [HW2.out]
  go_wp2_with fail
  go_ret
  exact ⟨rfl, below_alloc G.out _⟩

set_option maxHeartbeats 2000000 in
set_option maxRecDepth 100000 in
theorem finds_bad1 (a b most : Int) (s : Option Addr) (k c : Nat) (z : Nat → Bool) (w : World) (hs : IsBools w s k c z) (h : findErr (pageErr a b k) most (anyInk z k) ≠ 0) (hE : pageErr a b k = 0) (hi : anyInk z k = false) :
    Calls Try.prog 8 #[.agg #[.int .i64 a, .int .i64 b, .slice s k c], .int .i64 most] w fun e w' => e = .returned (.bool true) ∧ Below w.heap.size w w' := by
  have HB := Lib.hid hs
  have H0 := Lib.hid h
  obtain ⟨Q, hQ⟩ : ∃ Q, Q = findErr (pageErr a b k) most (anyInk z k) := ⟨_, rfl⟩
  have t1 : (Q != 0) = true := by rw [hQ]; simpa using h
  have t2 : (Q == 0) = false := by rw [hQ]; simpa using h
  have t4 : (Q != Q) = false := by simp
  have HQ := Lib.hid hQ
  have t3 : (pageErr a b k == 0) = true := by rw [hE]; rfl
  have HW := Lib.hid (show orI (pageErr a b k) (orI (leanErr most 0) (whenI (!(anyInk z k)) 10)) = Q by rw [hQ, hE]; exact find_want _ _)
  have HW2 := Lib.hid (show orI (pageErr a b k) (whenI (!(anyInk z k)) 10) = bndErr (pageErr a b k) (anyInk z k) by rw [hE]; exact bnd_want _)
  have HE := Lib.hid hE
  have HBN := Lib.hid (show bndErr (pageErr a b k) (anyInk z k) ≠ 0 by rw [hE, hi]; decide)
  clear hE hi
  clear h hQ hs
  go_enter Try.func8, Try.ntmps8
  go_upto_region 2 with (first | (go_at_call 9; ((with_reducible refine (bitsError_any _ _ _ _ _ _).mono ?_); rintro e w1 ⟨rfl, hb1⟩)))
  have b1 := below_step (new_below w (.cells #[.int .i64 a, .int .i64 b, .slice s k c] 24)) hb1
  have q1 := below_block hb1 (heap_alloc_new w (.cells #[.int .i64 a, .int .i64 b, .slice s k c] 24))
  obtain ⟨p0, p1, p2, _, _, _⟩ := block3 q1
  go_wp2_with fail
  refine (boxR_any a b s k c z w1 (isBools_later HB.out b1)).mono ?_
  rintro e w2 ⟨X, Y, bw, bh, q, rfl, hq, hb2⟩
  go_upto_region 3 with (fail)
  obtain ⟨w3, hw3⟩ : ∃ w3, w3 = w2.alloc (.cells #[.int .i64 X, .int .i64 Y, .int .i64 bw, .int .i64 bh] 29) := ⟨_, rfl⟩
  have hb3 : Below w1.heap.size w1 w3 := by rw [hw3]; exact below_alloc hb2 _
  rw [← hw3]
  clear hw3
  have B3 := below_step b1 hb3
  have Q3 := below_block hb3 q1
  clear hb1 hb2 hb3 b1 q1 p0 p1 p2
  have hq2 := hq HE.out
  subst hq2
  clear hq
  go_upto_region 4 with (first | (go_at_call 81; refine (leanError_any _ _ _).mono ?_; rintro e w' ⟨rfl, rfl⟩) | (go_at_call 23; refine (when_any _ _ _).mono ?_; rintro e w' ⟨rfl, rfl⟩) | (go_at_call 22; refine (first3_new _ _ _ _).mono ?_; rintro e w' ⟨rfl, rfl⟩))
  obtain ⟨w4, hw4⟩ : ∃ w4, w4 = w3.alloc (.cells #[.int .i64 (pageErr a b k), .int .i64 (leanErr most 0), .int .i64 (whenI (!(anyInk z k)) 10)] 30) := ⟨_, rfl⟩
  have hb4 : Below w3.heap.size w3 w4 := by rw [hw4]; exact new_below _ _
  rw [← hw4, HW.out]
  clear hw4
  have B4 := Lib.hid (below_step B3 hb4)
  have Q4 := Lib.hid (below_block hb4 Q3)
  obtain ⟨p0, p1, p2, _, _, _⟩ := block3 Q4.out
  clear hb4 B3 Q3
  go_wp2_with fail
  refine (find_bad a b most s k c z w4 (isBools_later HB.out B4.out) H0.out).mono ?_
  rintro e w5 ⟨rfl, hb5⟩
  rw [← HQ.out]
  have B5 := Lib.hid (below_step B4.out hb5)
  have Q5 := Lib.hid (below_block hb5 Q4.out)
  clear hb5 p0 p1 p2 B4 Q4
  obtain ⟨p0, p1, p2, _, _, _⟩ := block3 Q5.out
  go_wp2_with fail
  refine (straight_bad a b most s k c z w5 (isBools_later HB.out B5.out) H0.out).mono ?_
  rintro e w6 ⟨rfl, hb6⟩
  rw [← HQ.out]
  have B6 := Lib.hid (below_step B5.out hb6)
  have Q6 := Lib.hid (below_block hb6 Q5.out)
  clear hb6 p0 p1 p2 B5 Q5
  go_upto_region 6 with (fail)
  obtain ⟨w7, hw7⟩ : ∃ w7, w7 = w6.alloc (.cells #[.int .i64 0, .int .i64 0, .slice none 0 0] 24) := ⟨_, rfl⟩
  have hb7 : Below w6.heap.size w6 w7 := by rw [hw7]; exact new_below _ _
  have x7 : w7.heap[w6.heap.size]? = some (.cells #[.int .i64 0, .int .i64 0, .slice none 0 0] 24 (0, 0)) := by rw [hw7]; exact heap_alloc_new _ _
  rw [← hw7]
  clear hw7
  have B7 := Lib.hid (below_step B6.out hb7)
  have Q7 := Lib.hid (below_block hb7 Q6.out)
  have X7 := Lib.hid x7
  obtain ⟨p0, p1, p2, _, _, _⟩ := block3 Q7.out
  clear hb7 x7 B6 Q6
  go_wp2_with fail
  refine (findSlant_bad a b most s k c z w7 (isBools_later HB.out B7.out) H0.out).mono ?_
  rintro e w8 ⟨rfl, hb8⟩
  rw [← HQ.out]
  have B8 := Lib.hid (below_step B7.out hb8)
  have Q8 := Lib.hid (below_block hb8 Q7.out)
  have X8 := Lib.hid (below_block hb8 X7.out)
  clear hb8 p0 p1 p2 B7 Q7 X7
  go_wp2_with fail
  refine (skews_any w8).mono ?_
  rintro e w9 ⟨rfl, hb9⟩
  have B9 := Lib.hid (below_step B8.out hb9)
  have Q9 := Lib.hid (below_block hb9 Q8.out)
  have X9 := Lib.hid (below_block hb9 X8.out)
  clear hb9 B8 Q8 X8
  obtain ⟨p0, p1, p2, _, _, _⟩ := block3 X9.out
  go_wp2_with fail
  refine (noBits_zero w9).mono ?_
  rintro e w10 ⟨rfl, hb10⟩
  have B10 := Lib.hid (below_step B9.out hb10)
  have Q10 := Lib.hid (below_block hb10 Q9.out)
  clear hb10 p0 p1 p2 B9 Q9 X9
  obtain ⟨p0, p1, p2, _, _, _⟩ := block3 Q10.out
  go_wp2_with fail
  refine (upright_bad a b s k c z w10 (isBools_later HB.out B10.out) HBN.out).mono ?_
  rintro e w11 ⟨rfl, hb11⟩
  obtain ⟨U, hU⟩ : ∃ U, U = bndErr (pageErr a b k) (anyInk z k) := ⟨_, rfl⟩
  rw [← hU] at HBN HW2 ⊢
  have t5 : (U != 0) = true := by simpa using HBN.out
  have t6 : (U == U) = true := by simp
  have G := Lib.hid (below_step B10.out hb11)
  clear hb11 p0 p1 p2 B10 Q10 hU
  go_upto_region 19 with (first | (go_at_call 23; refine (when_any _ _ _).mono ?_; rintro e w' ⟨rfl, rfl⟩) | (go_at_call 22; refine (first2_new _ _ _).mono ?_; rintro e w' ⟨rfl, rfl⟩))
  rw [HW2.out]
  go_wp2_with fail
  go_ret
  exact ⟨rfl, below_alloc G.out _⟩

set_option maxHeartbeats 2000000 in
set_option maxRecDepth 100000 in
theorem finds_bad2 (W H g o c : Nat) (most : Int) (z : Nat → Bool) (w : World) (hs : IsBools w (some ⟨g, o, none⟩) (W * H) c z) (hz : sizeErr W H = 0) (hp : ∀ j, j < W * H → w.cell? ⟨g, o + j, none⟩ = some (.bool (z j))) (h : findErr (pageErr W H (W * H)) most (anyInk z (W * H)) ≠ 0) (hE : pageErr W H (W * H) = 0) (hi : anyInk z (W * H) = true) :
    Calls Try.prog 8 #[.agg #[.int .i64 W, .int .i64 H, .slice (some ⟨g, o, none⟩) (W * H) c], .int .i64 most] w fun e w' => e = .returned (.bool true) ∧ Below w.heap.size w w' := by
  obtain ⟨⟨a1, a2, a3, a4⟩, a5, a6⟩ := sizeErr_zero hz
  have bW : 1 ≤ W ∧ W ≤ 4000 := by omega
  have bH : 1 ≤ H ∧ H ≤ 4000 := by omega
  have HC := Lib.hid hp
  have HS := Lib.hid hz
  have HI := Lib.hid hi
  clear hp hz a5 a6
  have HB := Lib.hid hs
  have H0 := Lib.hid h
  obtain ⟨Q, hQ⟩ : ∃ Q, Q = findErr (pageErr W H (W * H)) most (anyInk z (W * H)) := ⟨_, rfl⟩
  have t1 : (Q != 0) = true := by rw [hQ]; simpa using h
  have t2 : (Q == 0) = false := by rw [hQ]; simpa using h
  have t4 : (Q != Q) = false := by simp
  have HQ := Lib.hid hQ
  have t3 : (pageErr W H (W * H) == 0) = true := by rw [hE]; rfl
  have HW := Lib.hid (show orI (pageErr W H (W * H)) (orI (leanErr most 0) (whenI (!(anyInk z (W * H))) 10)) = Q by rw [hQ, hE]; exact find_want _ _)
  have HW2 := Lib.hid (show orI (pageErr W H (W * H)) (whenI (!(anyInk z (W * H))) 10) = bndErr (pageErr W H (W * H)) (anyInk z (W * H)) by rw [hE]; exact bnd_want _)
  have HW2' := HW2
  have HW2 := Lib.hid (show orI (pageErr W H (W * H)) (whenI (!(anyInk z (W * H))) 10) = 0 by rw [hE, hi]; rfl)
  clear HW2' hi
  have HE := Lib.hid hE
  clear hE
  clear h hQ hs
  go_enter Try.func8, Try.ntmps8
  go_upto_region 2 with (first | (go_at_call 9; ((with_reducible refine (bitsError_any _ _ _ _ _ _).mono ?_); rintro e w1 ⟨rfl, hb1⟩)))
  have b1 := below_step (new_below w (.cells #[.int .i64 W, .int .i64 H, .slice (some ⟨g, o, none⟩) (W * H) c] 24)) hb1
  have q1 := below_block hb1 (heap_alloc_new w (.cells #[.int .i64 W, .int .i64 H, .slice (some ⟨g, o, none⟩) (W * H) c] 24))
  obtain ⟨p0, p1, p2, _, _, _⟩ := block3 q1
  go_wp2_with fail
  refine (boxR_any W H (some ⟨g, o, none⟩) (W * H) c z w1 (isBools_later HB.out b1)).mono ?_
  rintro e w2 ⟨X, Y, bw, bh, q, rfl, hq, hb2⟩
  go_upto_region 3 with (fail)
  obtain ⟨w3, hw3⟩ : ∃ w3, w3 = w2.alloc (.cells #[.int .i64 X, .int .i64 Y, .int .i64 bw, .int .i64 bh] 29) := ⟨_, rfl⟩
  have hb3 : Below w1.heap.size w1 w3 := by rw [hw3]; exact below_alloc hb2 _
  rw [← hw3]
  clear hw3
  have B3 := below_step b1 hb3
  have Q3 := below_block hb3 q1
  clear hb1 hb2 hb3 b1 q1 p0 p1 p2
  have hq2 := hq HE.out
  subst hq2
  clear hq
  go_upto_region 4 with (first | (go_at_call 81; refine (leanError_any _ _ _).mono ?_; rintro e w' ⟨rfl, rfl⟩) | (go_at_call 23; refine (when_any _ _ _).mono ?_; rintro e w' ⟨rfl, rfl⟩) | (go_at_call 22; refine (first3_new _ _ _ _).mono ?_; rintro e w' ⟨rfl, rfl⟩))
  obtain ⟨w4, hw4⟩ : ∃ w4, w4 = w3.alloc (.cells #[.int .i64 (pageErr W H (W * H)), .int .i64 (leanErr most 0), .int .i64 (whenI (!(anyInk z (W * H))) 10)] 30) := ⟨_, rfl⟩
  have hb4 : Below w3.heap.size w3 w4 := by rw [hw4]; exact new_below _ _
  rw [← hw4, HW.out]
  clear hw4
  have B4 := Lib.hid (below_step B3 hb4)
  have Q4 := Lib.hid (below_block hb4 Q3)
  obtain ⟨p0, p1, p2, _, _, _⟩ := block3 Q4.out
  clear hb4 B3 Q3
  go_wp2_with fail
  refine (find_bad W H most (some ⟨g, o, none⟩) (W * H) c z w4 (isBools_later HB.out B4.out) H0.out).mono ?_
  rintro e w5 ⟨rfl, hb5⟩
  rw [← HQ.out]
  have B5 := Lib.hid (below_step B4.out hb5)
  have Q5 := Lib.hid (below_block hb5 Q4.out)
  clear hb5 p0 p1 p2 B4 Q4
  obtain ⟨p0, p1, p2, _, _, _⟩ := block3 Q5.out
  go_wp2_with fail
  refine (straight_bad W H most (some ⟨g, o, none⟩) (W * H) c z w5 (isBools_later HB.out B5.out) H0.out).mono ?_
  rintro e w6 ⟨rfl, hb6⟩
  rw [← HQ.out]
  have B6 := Lib.hid (below_step B5.out hb6)
  have Q6 := Lib.hid (below_block hb6 Q5.out)
  clear hb6 p0 p1 p2 B5 Q5
  go_upto_region 6 with (fail)
  obtain ⟨w7, hw7⟩ : ∃ w7, w7 = w6.alloc (.cells #[.int .i64 0, .int .i64 0, .slice none 0 0] 24) := ⟨_, rfl⟩
  have hb7 : Below w6.heap.size w6 w7 := by rw [hw7]; exact new_below _ _
  have x7 : w7.heap[w6.heap.size]? = some (.cells #[.int .i64 0, .int .i64 0, .slice none 0 0] 24 (0, 0)) := by rw [hw7]; exact heap_alloc_new _ _
  rw [← hw7]
  clear hw7
  have B7 := Lib.hid (below_step B6.out hb7)
  have Q7 := Lib.hid (below_block hb7 Q6.out)
  have X7 := Lib.hid x7
  obtain ⟨p0, p1, p2, _, _, _⟩ := block3 Q7.out
  clear hb7 x7 B6 Q6
  go_wp2_with fail
  refine (findSlant_bad W H most (some ⟨g, o, none⟩) (W * H) c z w7 (isBools_later HB.out B7.out) H0.out).mono ?_
  rintro e w8 ⟨rfl, hb8⟩
  rw [← HQ.out]
  have B8 := Lib.hid (below_step B7.out hb8)
  have Q8 := Lib.hid (below_block hb8 Q7.out)
  have X8 := Lib.hid (below_block hb8 X7.out)
  clear hb8 p0 p1 p2 B7 Q7 X7
  go_wp2_with fail
  refine (skews_any w8).mono ?_
  rintro e w9 ⟨rfl, hb9⟩
  have B9 := Lib.hid (below_step B8.out hb9)
  have Q9 := Lib.hid (below_block hb9 Q8.out)
  have X9 := Lib.hid (below_block hb9 X8.out)
  clear hb9 B8 Q8 X8
  obtain ⟨p0, p1, p2, _, _, _⟩ := block3 X9.out
  go_wp2_with fail
  refine (noBits_zero w9).mono ?_
  rintro e w10 ⟨rfl, hb10⟩
  have B10 := Lib.hid (below_step B9.out hb10)
  have Q10 := Lib.hid (below_block hb10 Q9.out)
  clear hb10 p0 p1 p2 B9 Q9 X9
  obtain ⟨p0, p1, p2, _, _, _⟩ := block3 Q10.out
  go_wp2_with fail
  refine (upright_ok W H g o c z w10 HS.out HI.out (fun j hj => cell_later B10.out (HC.out j hj)) (isBools_later HB.out B10.out)).mono ?_
  rintro e wu ⟨rfl, hbu⟩
  have BU := Lib.hid (below_step B10.out hbu)
  have QU := Lib.hid (below_block hbu Q10.out)
  clear hbu p0 p1 p2 B10 Q10
  go_upto_region 19 with (first | (go_at_call 23; refine (when_any _ _ _).mono ?_; rintro e w' ⟨rfl, rfl⟩) | (go_at_call 22; refine (first2_new _ _ _).mono ?_; rintro e w' ⟨rfl, rfl⟩))
  rw [HW2.out]
  obtain ⟨wv, hwv⟩ : ∃ wv, wv = wu.alloc (.cells #[.int .i64 (pageErr W H (W * H)), .int .i64 (whenI (!(anyInk z (W * H))) 10)] 30) := ⟨_, rfl⟩
  have hbv : Below wu.heap.size wu wv := by rw [hwv]; exact new_below _ _
  rw [← hwv]
  clear hwv
  have BV := Lib.hid (below_step BU.out hbv)
  obtain ⟨p0, p1, p2, _, _, _⟩ := block3 (below_block hbv QU.out)
  have l0 := World.block_lt_of_cell? _ _ p0
  simp only at l0
  clear hbv BU QU
  obtain ⟨SR, hSR⟩ : ∃ SR, SR = sqSum (fun y => inkB z W 0 y W 1) H := ⟨_, rfl⟩
  obtain ⟨SC, hSC⟩ : ∃ SC, SC = sqSum (fun x => inkB z W x 0 1 H) W := ⟨_, rfl⟩
  obtain ⟨uv, huv⟩ : ∃ uv, uv = upI z W H := ⟨_, rfl⟩
  have huv2 : uv = if SR < SC then 1 else 0 := by rw [huv, hSR, hSC]; rfl
  have HSR := Lib.hid hSR
  have HSC := Lib.hid hSC
  have HCV := Lib.hid (fun j hj => cell_later BV.out (HC.out j hj))
  rw [← huv]
  clear huv hSR hSC
  by_cases hlt : SR < SC
  · rw [if_pos hlt] at huv2
    subst huv2
    have i1 : (SR : Int) < (SC : Int) := by omega
    clear hlt
    go_upto_region 22 with (fail)
    go_region_held3 (fun w' => w'.cell? ⟨w.heap.size, 0, none⟩ = some (.int .i64 W) ∧ w'.cell? ⟨w.heap.size, 1, none⟩ = some (.int .i64 H) ∧ w'.cell? ⟨w.heap.size, 2, none⟩ = some (.slice (some ⟨g, o, none⟩) (W * H) c))
      (first | (go_keep; done) | (go_split_ands; exact ⟨cell_later hbC (by assumption), cell_later hbC (by assumption), cell_later hbC (by assumption)⟩) | (go_split_ands; exact ⟨cell_later hbR (by assumption), cell_later hbR (by assumption), cell_later hbR (by assumption)⟩))
      ((first | (go_at_call 67; ((with_reducible refine (columnsOf_any W H g o c z wv.drew bW bH (fun j hj => cell_later (Below.refl _ _).drew (HCV.out j hj))).mono ?_); rintro e wC ⟨vC, rfl, hoC, hbC⟩; obtain ⟨cg, cc, rfl, _, hzC⟩ := owns_nums hoC bW.1; have ZC := Lib.hid hzC; clear hzC hoC)) | (go_at_call 90; ((with_reducible refine (squareR_any W cg 0 cc (fun x => inkB z W x 0 1 H) wC (by omega) (fun j => Nat.le_trans (inkB_le _ _ _ _ _ _) (by omega)) ZC.out).mono ?_); rw [← HSC.out]; rintro e wD ⟨rfl, rfl⟩)) | (go_at_call 66; ((with_reducible refine (rowsOf_any W H g o c z wC bW bH (fun j hj => cell_later (below_step (Below.refl _ _).drew hbC) (HCV.out j hj))).mono ?_); rintro e wR ⟨vR, rfl, hoR, hbR⟩; obtain ⟨rg, rc, rfl, _, hzR⟩ := owns_nums hoR bH.1; have ZR := Lib.hid hzR; clear hzR hoR)) | (go_at_call 90; ((with_reducible refine (squareR_any H rg 0 rc (fun y => inkB z W 0 y W 1) wR (by omega) (fun j => Nat.le_trans (inkB_le _ _ _ _ _ _) (by omega)) ZR.out).mono ?_); rw [← HSR.out]; rintro e wD ⟨rfl, rfl⟩))))
    have HBX := Lib.hid (below_step (below_step (Below.refl wv.heap.size wv).drew hbC) hbR)
    clear hbC hbR
    have G := Lib.hid (BV.out.trans (HBX.out.mono BV.out.size))
    clear HBX
    go_wp2_with fail
    go_ret
    exact ⟨rfl, G.out⟩
  · rw [if_neg hlt] at huv2
    subst huv2
    have i1 : ¬ (SR : Int) < (SC : Int) := by omega
    clear hlt
    go_upto_region 22 with (fail)
    go_region_held3 (fun w' => w'.cell? ⟨w.heap.size, 0, none⟩ = some (.int .i64 W) ∧ w'.cell? ⟨w.heap.size, 1, none⟩ = some (.int .i64 H) ∧ w'.cell? ⟨w.heap.size, 2, none⟩ = some (.slice (some ⟨g, o, none⟩) (W * H) c))
      (first | (go_keep; done) | (go_split_ands; exact ⟨cell_later hbC (by assumption), cell_later hbC (by assumption), cell_later hbC (by assumption)⟩) | (go_split_ands; exact ⟨cell_later hbR (by assumption), cell_later hbR (by assumption), cell_later hbR (by assumption)⟩))
      ((first | (go_at_call 67; ((with_reducible refine (columnsOf_any W H g o c z wv.drew bW bH (fun j hj => cell_later (Below.refl _ _).drew (HCV.out j hj))).mono ?_); rintro e wC ⟨vC, rfl, hoC, hbC⟩; obtain ⟨cg, cc, rfl, _, hzC⟩ := owns_nums hoC bW.1; have ZC := Lib.hid hzC; clear hzC hoC)) | (go_at_call 90; ((with_reducible refine (squareR_any W cg 0 cc (fun x => inkB z W x 0 1 H) wC (by omega) (fun j => Nat.le_trans (inkB_le _ _ _ _ _ _) (by omega)) ZC.out).mono ?_); rw [← HSC.out]; rintro e wD ⟨rfl, rfl⟩)) | (go_at_call 66; ((with_reducible refine (rowsOf_any W H g o c z wC bW bH (fun j hj => cell_later (below_step (Below.refl _ _).drew hbC) (HCV.out j hj))).mono ?_); rintro e wR ⟨vR, rfl, hoR, hbR⟩; obtain ⟨rg, rc, rfl, _, hzR⟩ := owns_nums hoR bH.1; have ZR := Lib.hid hzR; clear hzR hoR)) | (go_at_call 90; ((with_reducible refine (squareR_any H rg 0 rc (fun y => inkB z W 0 y W 1) wR (by omega) (fun j => Nat.le_trans (inkB_le _ _ _ _ _ _) (by omega)) ZR.out).mono ?_); rw [← HSR.out]; rintro e wD ⟨rfl, rfl⟩))))
    have HBX := Lib.hid (below_step (below_step (Below.refl wv.heap.size wv).drew hbC) hbR)
    clear hbC hbR
    have G := Lib.hid (BV.out.trans (HBX.out.mono BV.out.size))
    clear HBX
    go_wp2_with fail
    go_ret
    exact ⟨rfl, G.out⟩

set_option maxHeartbeats 4000000 in
set_option maxRecDepth 100000 in
theorem finds_ok (W H g o c most : Nat) (z : Nat → Bool) (w : World) (hs : IsBools w (some ⟨g, o, none⟩) (W * H) c z) (hz : sizeErr W H = 0) (hm : most ≤ 256) (hi : anyInk z (W * H) = true) (hp : ∀ j, j < W * H → w.cell? ⟨g, o + j, none⟩ = some (.bool (z j))) :
    Calls Try.prog 8 #[.agg #[.int .i64 W, .int .i64 H, .slice (some ⟨g, o, none⟩) (W * H) c], .int .i64 most] w fun e w' => e = .returned (.bool true) ∧ Below w.heap.size w w' := by
  obtain ⟨⟨a1, a2, a3, a4⟩, a5, a6⟩ := sizeErr_zero hz
  have hE : pageErr W H (W * H) = 0 := by unfold pageErr; rw [if_pos hz, if_pos (by simp [Int.natCast_mul])]
  have hN : W * H ≤ 1048576 := by rw [← Int.natCast_mul] at a6; omega
  have bW : 1 ≤ W ∧ W ≤ 4000 := by omega
  have bH : 1 ≤ H ∧ H ≤ 4000 := by omega
  have HN := Lib.hid hN
  have HC := Lib.hid hp
  have HS := Lib.hid hz
  have HI := Lib.hid hi
  have HB := Lib.hid hs
  have t3 : (pageErr W H (W * H) == 0) = true := by rw [hE]; rfl
  have HW := Lib.hid (show orI (pageErr W H (W * H)) (orI (leanErr most 0) (whenI (!(anyInk z (W * H))) 10)) = 0 by rw [hE, find_want, hi]; unfold findErr; rw [if_pos rfl, if_pos (by omega), if_pos rfl])
  have HW2 := Lib.hid (show orI (pageErr W H (W * H)) (whenI (!(anyInk z (W * H))) 10) = 0 by rw [hE, hi]; rfl)
  have HE := Lib.hid hE
  clear hp hz hi hs hE hN a5 a6
  go_enter Try.func8, Try.ntmps8
  go_upto_region 2 with (first | (go_at_call 9; ((with_reducible refine (bitsError_any _ _ _ _ _ _).mono ?_); rintro e w1 ⟨rfl, hb1⟩)))
  have b1 := below_step (new_below w (.cells #[.int .i64 W, .int .i64 H, .slice (some ⟨g, o, none⟩) (W * H) c] 24)) hb1
  have q1 := below_block hb1 (heap_alloc_new w (.cells #[.int .i64 W, .int .i64 H, .slice (some ⟨g, o, none⟩) (W * H) c] 24))
  obtain ⟨p0, p1, p2, _, _, _⟩ := block3 q1
  go_wp2_with fail
  refine (boxR_any W H (some ⟨g, o, none⟩) (W * H) c z w1 (isBools_later HB.out b1)).mono ?_
  rintro e w2 ⟨X, Y, bw, bh, q, rfl, hq, hb2⟩
  go_upto_region 3 with (fail)
  obtain ⟨w3, hw3⟩ : ∃ w3, w3 = w2.alloc (.cells #[.int .i64 X, .int .i64 Y, .int .i64 bw, .int .i64 bh] 29) := ⟨_, rfl⟩
  have hb3 : Below w1.heap.size w1 w3 := by rw [hw3]; exact below_alloc hb2 _
  rw [← hw3]
  clear hw3
  have B3 := below_step b1 hb3
  have Q3 := below_block hb3 q1
  clear hb1 hb2 hb3 b1 q1 p0 p1 p2
  have hq2 := hq HE.out
  subst hq2
  clear hq
  go_upto_region 4 with (first | (go_at_call 81; refine (leanError_any _ _ _).mono ?_; rintro e w' ⟨rfl, rfl⟩) | (go_at_call 23; refine (when_any _ _ _).mono ?_; rintro e w' ⟨rfl, rfl⟩) | (go_at_call 22; refine (first3_new _ _ _ _).mono ?_; rintro e w' ⟨rfl, rfl⟩))
  obtain ⟨w4, hw4⟩ : ∃ w4, w4 = w3.alloc (.cells #[.int .i64 (pageErr W H (W * H)), .int .i64 (leanErr most 0), .int .i64 (whenI (!(anyInk z (W * H))) 10)] 30) := ⟨_, rfl⟩
  have hb4 : Below w3.heap.size w3 w4 := by rw [hw4]; exact new_below _ _
  rw [← hw4, HW.out]
  clear hw4
  have B4 := Lib.hid (below_step B3 hb4)
  have Q4 := Lib.hid (below_block hb4 Q3)
  obtain ⟨p0, p1, p2, _, _, _⟩ := block3 Q4.out
  clear hb4 B3 Q3
  obtain ⟨F, hF⟩ : ∃ F, F = (bestUp (scoreV (inkQ z W) W H) most).1 := ⟨_, rfl⟩
  obtain ⟨S, hS⟩ : ∃ S, S = (bestUp (slantV z W H) most).1 := ⟨_, rfl⟩
  have hr := bestUp_range (scoreV (inkQ z W) W H) most
  rw [← hF] at hr
  have f1 : -256 ≤ F := by omega
  have f2 : F ≤ 256 := by omega
  have HF := Lib.hid hF
  have HSL := Lib.hid hS
  clear hF hS hr
  go_wp2_with fail
  refine (find_ok W H g o c most z w4 HS.out hm HI.out (fun j hj => cell_later B4.out (HC.out j hj)) (isBools_later HB.out B4.out)).mono ?_
  rintro e w5 ⟨rfl, hb5⟩
  rw [← HF.out]
  have B5 := Lib.hid (below_step B4.out hb5)
  have Q5 := Lib.hid (below_block hb5 Q4.out)
  clear hb5 p0 p1 p2 B4 Q4
  obtain ⟨p0, p1, p2, _, _, _⟩ := block3 Q5.out
  go_wp2_with fail
  refine (straight_ok W H g o c most z w5 HS.out hm HI.out (fun j hj => cell_later B5.out (HC.out j hj)) (isBools_later HB.out B5.out)).mono ?_
  rw [← HF.out]
  rintro e w6 ⟨gx, cx, rfl, hx6, hb6⟩
  have B6 := Lib.hid (below_step B5.out hb6)
  have Q6 := Lib.hid (below_block hb6 Q5.out)
  have HX6 := Lib.hid hx6
  clear hb6 p0 p1 p2 B5 Q5 hx6
  go_upto_region 6 with (fail)
  obtain ⟨w7, hw7⟩ : ∃ w7, w7 = w6.alloc (.cells #[.int .i64 W, .int .i64 H, .slice (some ⟨gx, 0, none⟩) (W * H) cx] 24) := ⟨_, rfl⟩
  have hb7 : Below w6.heap.size w6 w7 := by rw [hw7]; exact new_below _ _
  have x7 : w7.heap[w6.heap.size]? = some (.cells #[.int .i64 W, .int .i64 H, .slice (some ⟨gx, 0, none⟩) (W * H) cx] 24 (0, 0)) := by rw [hw7]; exact heap_alloc_new _ _
  rw [← hw7]
  clear hw7
  have B7 := Lib.hid (below_step B6.out hb7)
  have Q7 := Lib.hid (below_block hb7 Q6.out)
  have HX7 := Lib.hid (fun j hj => cell_later hb7 (HX6.out j hj))
  have X7 := Lib.hid x7
  obtain ⟨p0, p1, p2, _, _, _⟩ := block3 Q7.out
  clear hb7 x7 B6 Q6 HX6
  go_wp2_with fail
  refine (findSlant_ok W H g o c most z w7 HS.out hm HI.out (fun j hj => cell_later B7.out (HC.out j hj)) (isBools_later HB.out B7.out)).mono ?_
  rintro e w8 ⟨rfl, hb8⟩
  rw [← HSL.out]
  have B8 := Lib.hid (below_step B7.out hb8)
  have Q8 := Lib.hid (below_block hb8 Q7.out)
  have X8 := Lib.hid (below_block hb8 X7.out)
  have HX8 := Lib.hid (fun j hj => cell_later hb8 (HX7.out j hj))
  clear hb8 p0 p1 p2 B7 Q7 X7 HX7
  go_wp2_with fail
  refine (skews_any w8).mono ?_
  rintro e w9 ⟨rfl, hb9⟩
  have B9 := Lib.hid (below_step B8.out hb9)
  have Q9 := Lib.hid (below_block hb9 Q8.out)
  have X9 := Lib.hid (below_block hb9 X8.out)
  have HX9 := Lib.hid (fun j hj => cell_later hb9 (HX8.out j hj))
  clear hb9 B8 Q8 X8 HX8
  obtain ⟨p0, p1, p2, _, _, _⟩ := block3 Q9.out
  go_wp2_with fail
  refine (small_any W H w9 HS.out).mono ?_
  rintro e w9' ⟨qs, rfl, rfl⟩
  cases qs
  · go_wp2_with fail
    refine (skews_any w9).mono ?_
    rintro e w10 ⟨rfl, hb10⟩
    have B10 := Lib.hid (below_step B9.out hb10)
    clear hb10
    go_wp2_with fail
    go_ret
    exact ⟨rfl, B10.out⟩
  · by_cases hm40 : (40 : Int) < (most : Int)
    · go_wp2_with fail
      refine (skews_any w9).mono ?_
      rintro e w10 ⟨rfl, hb10⟩
      have B10 := Lib.hid (below_step B9.out hb10)
      clear hb10
      go_wp2_with fail
      go_ret
      exact ⟨rfl, B10.out⟩
    · go_wp2_with fail
      refine (findOf_any W H g o c most z w9 bW bH HN.out hm (fun j hj => cell_later B9.out (HC.out j hj))).mono ?_
      rintro e w10 ⟨rfl, hb10⟩
      rw [← HF.out]
      have B10 := Lib.hid (below_step B9.out hb10)
      have HX10 := Lib.hid (fun j hj => cell_later hb10 (HX9.out j hj))
      have HC10 := Lib.hid (fun j hj => cell_later B10.out (HC.out j hj))
      clear p0 p1 p2
      have Q10 := Lib.hid (below_block hb10 Q9.out)
      obtain ⟨p0, p1, p2, _, _, _⟩ := block3 Q10.out
      obtain ⟨x0, x1, x2, _, _, _⟩ := block3 (below_block hb10 X9.out)
      have l0 := World.block_lt_of_cell? _ _ p0
      have l1 := World.block_lt_of_cell? _ _ x0
      simp only at l0 l1
      have t5 : (F != F) = false := by simp
      have t6 : (S != S) = false := by simp
      have HFN := Lib.hid (show -256 ≤ -F ∧ -F ≤ 256 by omega)
      have HN8 := Lib.hid (show W * H ≤ 100000000 by have := HN.out; omega)
      have hneg : IntKind.i64.wrap (-F) = -F := IntWalk.i64_in _ (by omega)
      clear hb10 B9 Q9 X9 HX9
      go_upto_region 15 with (fail)
      go_region_held3 (fun w' => w'.cell? ⟨w.heap.size, 0, none⟩ = some (.int .i64 W) ∧ w'.cell? ⟨w.heap.size, 1, none⟩ = some (.int .i64 H) ∧ w'.cell? ⟨w.heap.size, 2, none⟩ = some (.slice (some ⟨g, o, none⟩) (W * H) c) ∧
          w'.cell? ⟨w6.heap.size, 0, none⟩ = some (.int .i64 W) ∧ w'.cell? ⟨w6.heap.size, 1, none⟩ = some (.int .i64 H) ∧ w'.cell? ⟨w6.heap.size, 2, none⟩ = some (.slice (some ⟨gx, 0, none⟩) (W * H) cx))
        (first | (go_keep; done) | (go_split_ands; exact ⟨cell_later hb11 (by assumption), cell_later hb11 (by assumption), cell_later hb11 (by assumption), cell_later hb11 (by assumption), cell_later hb11 (by assumption), cell_later hb11 (by assumption)⟩) | (go_split_ands; exact ⟨cell_later hb12 (by assumption), cell_later hb12 (by assumption), cell_later hb12 (by assumption), cell_later hb12 (by assumption), cell_later hb12 (by assumption), cell_later hb12 (by assumption)⟩) | (go_split_ands; exact ⟨cell_later hb13 (by assumption), cell_later hb13 (by assumption), cell_later hb13 (by assumption), cell_later hb13 (by assumption), cell_later hb13 (by assumption), cell_later hb13 (by assumption)⟩))
        ((first | (go_at_call 87; ((with_reducible refine (leanRf_any W H g o c (-F) z w10.drew bW bH HN.out HFN.out (fun j hj => cell_later (Below.refl _ _).drew (HC10.out j hj))).mono ?_); rintro e w11 ⟨g11, c11, rfl, hz11, hb11⟩; have Z11 := Lib.hid hz11; clear hz11)) | (go_at_call 79; ((with_reducible refine (sameBits_true W H gx 0 g11 0 (W * H) cx c11 (leanZ W H z (-F)) w11 HN8.out (fun j hj => cell_later (below_step (Below.refl _ _).drew hb11) (HX10.out j hj)) Z11.out).mono ?_); rintro e w12 ⟨rfl, hb12⟩)) | (go_at_call 88; ((with_reducible refine (findSlantOf_any W H g o c most z w12 bW bH HN.out hm (fun j hj => cell_later (below_step (below_step (Below.refl _ _).drew hb11) hb12) (HC10.out j hj))).mono ?_); rw [← HSL.out]; rintro e w13 ⟨rfl, hb13⟩))))
      have hb20 : Below w10.heap.size w10 w13 := below_step (below_step (below_step (Below.refl _ _).drew hb11) hb12) hb13
      have B20 := Lib.hid (below_step B10.out hb20)
      have Q20 := Lib.hid (below_block hb20 Q10.out)
      clear hb11 hb12 hb13 hb20 B10 Q10 HX10 HC10 x0 x1 x2 p0 p1 p2 l0 l1
      obtain ⟨p0, p1, p2, _, _, _⟩ := block3 Q20.out
      go_wp2_with fail
      refine (upright_ok W H g o c z w13 HS.out HI.out (fun j hj => cell_later B20.out (HC.out j hj)) (isBools_later HB.out B20.out)).mono ?_
      rintro e wu ⟨rfl, hbu⟩
      have BU := Lib.hid (below_step B20.out hbu)
      have QU := Lib.hid (below_block hbu Q20.out)
      clear hbu p0 p1 p2 B20 Q20
      go_upto_region 19 with (first | (go_at_call 23; refine (when_any _ _ _).mono ?_; rintro e w' ⟨rfl, rfl⟩) | (go_at_call 22; refine (first2_new _ _ _).mono ?_; rintro e w' ⟨rfl, rfl⟩))
      rw [HW2.out]
      obtain ⟨wv, hwv⟩ : ∃ wv, wv = wu.alloc (.cells #[.int .i64 (pageErr W H (W * H)), .int .i64 (whenI (!(anyInk z (W * H))) 10)] 30) := ⟨_, rfl⟩
      have hbv : Below wu.heap.size wu wv := by rw [hwv]; exact new_below _ _
      rw [← hwv]
      clear hwv
      have BV := Lib.hid (below_step BU.out hbv)
      obtain ⟨p0, p1, p2, _, _, _⟩ := block3 (below_block hbv QU.out)
      have l0 := World.block_lt_of_cell? _ _ p0
      simp only at l0
      clear hbv BU QU
      obtain ⟨SR, hSR⟩ : ∃ SR, SR = sqSum (fun y => inkB z W 0 y W 1) H := ⟨_, rfl⟩
      obtain ⟨SC, hSC⟩ : ∃ SC, SC = sqSum (fun x => inkB z W x 0 1 H) W := ⟨_, rfl⟩
      obtain ⟨uv, huv⟩ : ∃ uv, uv = upI z W H := ⟨_, rfl⟩
      have huv2 : uv = if SR < SC then 1 else 0 := by rw [huv, hSR, hSC]; rfl
      have HSR := Lib.hid hSR
      have HSC := Lib.hid hSC
      have HCV := Lib.hid (fun j hj => cell_later BV.out (HC.out j hj))
      rw [← huv]
      clear huv hSR hSC
      by_cases hlt : SR < SC
      · rw [if_pos hlt] at huv2
        subst huv2
        have i1 : (SR : Int) < (SC : Int) := by omega
        clear hlt
        go_upto_region 22 with (fail)
        go_region_held3 (fun w' => w'.cell? ⟨w.heap.size, 0, none⟩ = some (.int .i64 W) ∧ w'.cell? ⟨w.heap.size, 1, none⟩ = some (.int .i64 H) ∧ w'.cell? ⟨w.heap.size, 2, none⟩ = some (.slice (some ⟨g, o, none⟩) (W * H) c))
          (first | (go_keep; done) | (go_split_ands; exact ⟨cell_later hbC (by assumption), cell_later hbC (by assumption), cell_later hbC (by assumption)⟩) | (go_split_ands; exact ⟨cell_later hbR (by assumption), cell_later hbR (by assumption), cell_later hbR (by assumption)⟩))
          ((first | (go_at_call 67; ((with_reducible refine (columnsOf_any W H g o c z wv.drew bW bH (fun j hj => cell_later (Below.refl _ _).drew (HCV.out j hj))).mono ?_); rintro e wC ⟨vC, rfl, hoC, hbC⟩; obtain ⟨cg, cc, rfl, _, hzC⟩ := owns_nums hoC bW.1; have ZC := Lib.hid hzC; clear hzC hoC)) | (go_at_call 90; ((with_reducible refine (squareR_any W cg 0 cc (fun x => inkB z W x 0 1 H) wC (by omega) (fun j => Nat.le_trans (inkB_le _ _ _ _ _ _) (by omega)) ZC.out).mono ?_); rw [← HSC.out]; rintro e wD ⟨rfl, rfl⟩)) | (go_at_call 66; ((with_reducible refine (rowsOf_any W H g o c z wC bW bH (fun j hj => cell_later (below_step (Below.refl _ _).drew hbC) (HCV.out j hj))).mono ?_); rintro e wR ⟨vR, rfl, hoR, hbR⟩; obtain ⟨rg, rc, rfl, _, hzR⟩ := owns_nums hoR bH.1; have ZR := Lib.hid hzR; clear hzR hoR)) | (go_at_call 90; ((with_reducible refine (squareR_any H rg 0 rc (fun y => inkB z W 0 y W 1) wR (by omega) (fun j => Nat.le_trans (inkB_le _ _ _ _ _ _) (by omega)) ZR.out).mono ?_); rw [← HSR.out]; rintro e wD ⟨rfl, rfl⟩))))
        have HBX := Lib.hid (below_step (below_step (Below.refl wv.heap.size wv).drew hbC) hbR)
        clear hbC hbR
        have G := Lib.hid (BV.out.trans (HBX.out.mono BV.out.size))
        clear HBX
        go_wp2_with fail
        go_ret
        exact ⟨rfl, G.out⟩
      · rw [if_neg hlt] at huv2
        subst huv2
        have i1 : ¬ (SR : Int) < (SC : Int) := by omega
        clear hlt
        go_upto_region 22 with (fail)
        go_region_held3 (fun w' => w'.cell? ⟨w.heap.size, 0, none⟩ = some (.int .i64 W) ∧ w'.cell? ⟨w.heap.size, 1, none⟩ = some (.int .i64 H) ∧ w'.cell? ⟨w.heap.size, 2, none⟩ = some (.slice (some ⟨g, o, none⟩) (W * H) c))
          (first | (go_keep; done) | (go_split_ands; exact ⟨cell_later hbC (by assumption), cell_later hbC (by assumption), cell_later hbC (by assumption)⟩) | (go_split_ands; exact ⟨cell_later hbR (by assumption), cell_later hbR (by assumption), cell_later hbR (by assumption)⟩))
          ((first | (go_at_call 67; ((with_reducible refine (columnsOf_any W H g o c z wv.drew bW bH (fun j hj => cell_later (Below.refl _ _).drew (HCV.out j hj))).mono ?_); rintro e wC ⟨vC, rfl, hoC, hbC⟩; obtain ⟨cg, cc, rfl, _, hzC⟩ := owns_nums hoC bW.1; have ZC := Lib.hid hzC; clear hzC hoC)) | (go_at_call 90; ((with_reducible refine (squareR_any W cg 0 cc (fun x => inkB z W x 0 1 H) wC (by omega) (fun j => Nat.le_trans (inkB_le _ _ _ _ _ _) (by omega)) ZC.out).mono ?_); rw [← HSC.out]; rintro e wD ⟨rfl, rfl⟩)) | (go_at_call 66; ((with_reducible refine (rowsOf_any W H g o c z wC bW bH (fun j hj => cell_later (below_step (Below.refl _ _).drew hbC) (HCV.out j hj))).mono ?_); rintro e wR ⟨vR, rfl, hoR, hbR⟩; obtain ⟨rg, rc, rfl, _, hzR⟩ := owns_nums hoR bH.1; have ZR := Lib.hid hzR; clear hzR hoR)) | (go_at_call 90; ((with_reducible refine (squareR_any H rg 0 rc (fun y => inkB z W 0 y W 1) wR (by omega) (fun j => Nat.le_trans (inkB_le _ _ _ _ _ _) (by omega)) ZR.out).mono ?_); rw [← HSR.out]; rintro e wD ⟨rfl, rfl⟩))))
        have HBX := Lib.hid (below_step (below_step (Below.refl wv.heap.size wv).drew hbC) hbR)
        clear hbC hbR
        have G := Lib.hid (BV.out.trans (HBX.out.mono BV.out.size))
        clear HBX
        go_wp2_with fail
        go_ret
        exact ⟨rfl, G.out⟩

theorem finds_any (a b n : Int) (s : Option Addr) (k c : Nat) (z : Nat → Bool) (w : World) (hs : IsBools w s k c z) :
    Calls Try.prog 8 #[.agg #[.int .i64 a, .int .i64 b, .slice s k c], .int .i64 n] w fun e w' => e = .returned (.bool true) ∧ Below w.heap.size w w' := by
  by_cases hE : pageErr a b k = 0
  · by_cases h : findErr (pageErr a b k) n (anyInk z k) = 0
    · obtain ⟨W, H, rfl, rfl, rfl, w1, w2, h3, h4, hN, he⟩ := page_nat hE
      obtain ⟨g, o, rfl, hc⟩ := isBools_cells hs (Nat.mul_pos w1 h3)
      rw [hE] at h
      unfold findErr at h
      rw [if_pos rfl] at h
      by_cases hn : 0 ≤ n ∧ n ≤ 256
      · rw [if_pos hn] at h
        obtain ⟨m, rfl⟩ := Int.eq_ofNat_of_zero_le hn.1
        refine finds_ok W H g o c m z w hs he (by omega) ?_ hc
        cases hi : anyInk z (W * H)
        · rw [hi] at h; simp at h
        · rfl
      · rw [if_neg hn] at h; simp at h
    · cases hi : anyInk z k
      · exact finds_bad1 a b n s k c z w hs h hE hi
      · obtain ⟨W, H, rfl, rfl, rfl, w1, w2, h3, h4, hN, he⟩ := page_nat hE
        obtain ⟨g, o, rfl, hc⟩ := isBools_cells hs (Nat.mul_pos w1 h3)
        exact finds_bad2 W H g o c n z w hs he hc h hE hi
  · refine finds_bad0 a b n s k c z w hs ?_ hE
    unfold findErr; rw [if_neg hE]; exact hE

end Go.Proofs.Ytcpgnfbjdokdcaa
namespace Go.Proofs.Ytcpgnfbjdokdcaa
open Go.ChangeShapes Go.WideShapes Go.ChangeAt Go.RowKit Go.Joins
open Go.ChangeMaps (open_string shut_string)
set_option linter.unusedVariables false

set_option maxRecDepth 100000 in
theorem finds_lifted (os : Os) (started : os.Started) (H : Type) (enc : TypeId × Value → H) :
    ReturnsInHanded {} Try.checked os 8 .any (Rows.findsMatchSpec.pre6 enc Try.prog Try.f8 Rows.findsMatchRow.domain false) (Rows.findsMatchSpec.post enc Try.prog Try.f8 false true false false) := by
  refine returnsInHanded_of_change (C := Try.checked) own started (by kernel_rfl) Try.func8
    (ChangeSpec.witness6 (enc := enc) (C := Try.checked) false ⟨#[], #[.agg #[.int .i64 0, .int .i64 0, .slice none 0 0], .int .i64 0], []⟩ 8 (by kernel_rfl) (by kernel_rfl) (by kernel_rfl) (by kernel_rfl)) ?_
  intro W base args ds gs before hval0 hW hcnd _
  have hval : ∀ (j : Nat) t v, Try.f8.params[j]? = some t → args[j]? = some v → Value.okWide Try.prog W .any base t v := hval0
  have hW' := hW
  obtain ⟨p, q, hA0, hV, rfl, hfz, hnd⟩ := hW
  have hA : DataW.TrodAll enc Try.prog W 0 (fun _ => true) true Try.f8.params.toList args.toList ds p := hA0
  rw [Try.params8] at hA hval
  obtain ⟨v0, vs0, d0, ds0, p0, q0, hargs, rfl, rfl, h0, r0⟩ := trodAll_cons hA
  obtain ⟨v1, vs1, d1, ds1, p1, q1, rfl, rfl, rfl, h1, r1⟩ := trodAll_cons r0
  obtain ⟨rfl, rfl, rfl⟩ := trodAll_nil r1
  obtain rfl : args = #[v0, v1] := by cases args; simp_all
  obtain ⟨rfl, rfl⟩ := trodVars_none hV
  have k0 := h0
  have lt0 : ∀ x ∈ p0, x.block < W.heap.size := by obtain ⟨m, hm⟩ := k0; exact DataW.trod_lt m _ _ _ hm
  obtain ⟨a0, b0, s0, n0, c0, z0, rfl, hs0, hn0⟩ := open_bitsN (hval 0 24 v0 rfl rfl) h0
  obtain ⟨m1, rfl, rfl, rfl, w1⟩ := open_int Try.underlying3 (hval 1 3 v1 rfl rfl) h1
  clear hA0 hval0
  refine (finds_any a0 b0 m1 s0 n0 c0 z0 W hs0).mono fun e W' ⟨he, bel⟩ => ?_
  subst he
  exact ⟨_, rfl, _, _, _, [], _, [], hW', trodAll_mk1 (shut_bool Try.underlying4 _), (trodAll_cons_mk (Below.trod laidOut (by kernel_rfl) (of_decide_eq_true (by kernel_rfl)) k0 bel lt0) (trodAll_cons_mk (shut_int Try.underlying3 w1) trodAll_mk0)), rfl, bel.frame _, fun h => by cases h⟩

theorem finds_over : Rows.findsMatchRow.holds Try.pinned (OpenSpec.ofChange Rows.findsMatchSpec) :=
  OpenClaim.holds_of_wide 8 Try.f8 rfl rfl rfl rfl rfl rfl rfl ⟨rfl, rfl, rfl, rfl, rfl⟩ rfl rfl rfl rfl rfl (by kernel_rfl) Try.func8 (by kernel_rfl)
    (of_decide_eq_true (by kernel_rfl)) (by unfold Func.isWrapper; first | (rw [if_pos (by decide +kernel)]; kernel_rfl) | (rw [if_neg (by decide +kernel)]; exact ⟨rfl, rfl⟩))
    (fun os started H enc _ => finds_lifted os started H enc)

theorem finds_holds : Rows.FindsMatchSaid := finds_over
end Go.Proofs.Ytcpgnfbjdokdcaa
