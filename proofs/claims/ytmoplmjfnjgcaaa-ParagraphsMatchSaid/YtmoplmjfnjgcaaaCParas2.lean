/-
  What paras_holds leans on: contracts of the functions that it calls.
-/
import Derived.Test.YtmoplmjfnjgcaaaRows
import Derived.WalkKit
import Derived.WalkSpells
import Derived.WalkLawsBesides
import Derived.Lib.Hide
import Derived.Deep.RegionHeld3
import Derived.Shelf.Abstract
import Derived.Deep.QuietTactic
import Derived.BigQuiet
import Derived.Deep.AppendLies
import Derived.Deep.DrawnRows
import Derived.Deep.RegionLaw
import Derived.ProofKit
import Derived.OpenShut
import Derived.ShutString
import Derived.ChangeOld
import Derived.Lib.SmallJoins
import Derived.Deep.Grids
import Derived.Deep.DeepCutAuto
import Derived.Lib.MinMax
import Derived.Deep.CutRange
import Derived.Laws.EntriesVeiled
import Derived.StillTailTactics
import Derived.RegionTactic
import Derived.ChangeAlike
import Derived.BigRegion
import Derived.Deep.OwnRows
import Derived.Deep.AppendSrc
import Derived.Test.YtmoplmjfnjgcaaaProg
import Derived.Deep.Slices
import Derived.Test.YtmoplmjfnjgcaaaCParas1
namespace Go.Proofs.Ytmoplmjfnjgcaaa
open Go.RowKit
set_option linter.unusedSimpArgs false
set_option linter.unusedVariables false

theorem size_any (a b : Int) (w : World) (h : (-5000000 ≤ a ∧ a ≤ 5000000) ∧ (-5000000 ≤ b ∧ b ≤ 5000000)) : Calls Try.prog 100 #[.agg #[.int .i64 a, .int .i64 b]] w fun e w' => e = .returned (.int .i64 (b - a)) ∧ Below w.heap.size w w' := by
  obtain ⟨⟨x1, x2⟩, x3, x4⟩ := h
  go_enter Try.func100, Try.ntmps100
  go_wp2_with fail
  go_ret
  exact ⟨rfl, new_below _ _⟩

set_option maxHeartbeats 800000 in
set_option maxRecDepth 100000 in
theorem boxOf_any (a b c d : Int) (w : World) (h1 : (-5000000 ≤ a ∧ a ≤ 5000000) ∧ (-5000000 ≤ b ∧ b ≤ 5000000)) (h2 : (-5000000 ≤ c ∧ c ≤ 5000000) ∧ (-5000000 ≤ d ∧ d ≤ 5000000)) :
    Calls Try.prog 71 #[.agg #[.int .i64 a, .int .i64 b], .agg #[.int .i64 c, .int .i64 d]] w fun e w' => e = .returned (.agg #[.int .i64 a, .int .i64 c, .int .i64 (b - a), .int .i64 (d - c)]) ∧ Below w.heap.size w w' := by
  have H1 := Lib.hid h1
  have H2 := Lib.hid h2
  clear h1 h2
  obtain ⟨w1, hw1⟩ : ∃ w1, w1 = ((w.alloc (.cells #[.int .i64 a, .int .i64 b] 115)).alloc (.cells #[.int .i64 c, .int .i64 d] 115)).alloc (.cells #[.int .i64 0, .int .i64 0, .int .i64 0, .int .i64 0] 92) := ⟨_, rfl⟩
  have B1 := Lib.hid (show Below w.heap.size w w1 by rw [hw1]; exact below_alloc (below_alloc (new_below _ _) _) _)
  have q0 : w1.cell? ⟨w.heap.size, 0, none⟩ = some (.int .i64 a) := by rw [hw1]; go_simp
  have q1 : w1.cell? ⟨w.heap.size, 1, none⟩ = some (.int .i64 b) := by rw [hw1]; go_simp
  have q2 : w1.cell? ⟨w.heap.size + 1, 0, none⟩ = some (.int .i64 c) := by rw [hw1]; go_simp
  have q3 : w1.cell? ⟨w.heap.size + 1, 1, none⟩ = some (.int .i64 d) := by rw [hw1]; go_simp
  have qb : w1.heap[w.heap.size + 1 + 1]? = some (.cells #[.int .i64 0, .int .i64 0, .int .i64 0, .int .i64 0] 92 (0, 0)) := by
    rw [hw1]; simpa using heap_alloc_new ((w.alloc (.cells #[.int .i64 a, .int .i64 b] 115)).alloc (.cells #[.int .i64 c, .int .i64 d] 115)) (.cells #[.int .i64 0, .int .i64 0, .int .i64 0, .int .i64 0] 92)
  have QB := Lib.hid qb
  go_enter Try.func71, Try.ntmps71
  go_upto_region 1 with (fail)
  rw [← hw1]
  clear hw1 qb
  have ne1 : w.heap.size ≠ w.heap.size + 1 + 1 := by omega
  have ne2 : w.heap.size + 1 ≠ w.heap.size + 1 + 1 := by omega
  have ne1' : w.heap.size + 1 + 1 ≠ w.heap.size := ne1.symm
  have ne2' : w.heap.size + 1 + 1 ≠ w.heap.size + 1 := ne2.symm
  go_region_held3 (fun w' => w'.cell? ⟨w.heap.size, 0, none⟩ = some (.int .i64 a) ∧ w'.cell? ⟨w.heap.size, 1, none⟩ = some (.int .i64 b) ∧ w'.cell? ⟨w.heap.size + 1, 0, none⟩ = some (.int .i64 c) ∧ w'.cell? ⟨w.heap.size + 1, 1, none⟩ = some (.int .i64 d))
    (first | (go_keep; done) | (go_split_ands; exact ⟨cell_later ha (by assumption), cell_later ha (by assumption), cell_later ha (by assumption), cell_later ha (by assumption)⟩) | (go_split_ands; exact ⟨cell_later hb (by assumption), cell_later hb (by assumption), cell_later hb (by assumption), cell_later hb (by assumption)⟩))
    ((first | (go_at_call 100; ((with_reducible refine (size_any a b w1.drew H1.out).mono ?_); rintro e wa ⟨rfl, ha⟩)) | (go_at_call 100; ((with_reducible refine (size_any c d wa H2.out).mono ?_); rintro e wb ⟨rfl, hb⟩; obtain ⟨⟨k0, k1, k2, k3⟩, g0, g1, g2, g3⟩ := block4 (below_block hb (below_block ha (show w1.drew.heap[w.heap.size + 1 + 1]? = _ from QB.out)))))))
  have G := Lib.hid (below_step (below_step B1.out (below_step (Below.refl _ _).drew ha)) hb)
  have hsz : w.heap.size ≤ w.heap.size + 1 + 1 := by omega
  clear ha hb
  go_wp2_with fail
  exact bodyPost_ret (v := .agg #[.int .i64 a, .int .i64 c, .int .i64 (b - a), .int .i64 (d - c)]) (by simp [results, Try.results71, go_sem, k0, k1, k2, k3]) rfl ⟨rfl, below_far4 G.out hsz⟩

end Go.Proofs.Ytmoplmjfnjgcaaa
namespace Go.Proofs.Ytmoplmjfnjgcaaa
open Go.RowKit
set_option linter.unusedSimpArgs false
set_option linter.unusedVariables false

theorem spanC_exact (X Y bw bh : Int) (w : World) (hX : -2000000 ≤ X ∧ X ≤ 2000000) (hw : 0 ≤ bw ∧ bw ≤ 2000000) : Calls Try.prog 68 #[.agg #[.int .i64 X, .int .i64 Y, .int .i64 bw, .int .i64 bh]] w fun e w' => e = .returned (.agg #[.int .i64 X, .int .i64 (X + bw)]) ∧ w' = (w.alloc (.cells #[.int .i64 X, .int .i64 Y, .int .i64 bw, .int .i64 bh] 92)).alloc (.cells #[.int .i64 X, .int .i64 (X + bw)] 115) := by
  obtain ⟨x1, x2⟩ := hX
  obtain ⟨x3, x4⟩ := hw
  go_enter Try.func68, Try.ntmps68
  go_wp2_with fail
  exact bodyPost_ret (v := .agg #[.int .i64 X, .int .i64 (X + bw)]) (by simp [results, Try.results68, go_sem]) rfl ⟨rfl, rfl⟩
theorem spanR_exact (X Y bw bh : Int) (w : World) (hX : -2000000 ≤ Y ∧ Y ≤ 2000000) (hw : 0 ≤ bh ∧ bh ≤ 2000000) : Calls Try.prog 69 #[.agg #[.int .i64 X, .int .i64 Y, .int .i64 bw, .int .i64 bh]] w fun e w' => e = .returned (.agg #[.int .i64 Y, .int .i64 (Y + bh)]) ∧ w' = (w.alloc (.cells #[.int .i64 X, .int .i64 Y, .int .i64 bw, .int .i64 bh] 92)).alloc (.cells #[.int .i64 Y, .int .i64 (Y + bh)] 115) := by
  obtain ⟨x1, x2⟩ := hX
  obtain ⟨x3, x4⟩ := hw
  go_enter Try.func69, Try.ntmps69
  go_wp2_with fail
  exact bodyPost_ret (v := .agg #[.int .i64 Y, .int .i64 (Y + bh)]) (by simp [results, Try.results69, go_sem]) rfl ⟨rfl, rfl⟩
set_option maxRecDepth 100000 in
theorem checkBoxes_nil (s : Option Addr) (c : Nat) (w : World) :
    Calls Try.prog 67 #[.slice s 0 c] w fun e w' => e = .returned (.int .i64 0) ∧ Below w.heap.size w w' := by
  go_enter Try.func67, Try.ntmps67
  go_wp2_with fail
  go_loopw [11] (fun i wr => i = .int .i64 0 ∧ Hid (Below w.heap.size w wr)) (fun i _ => 0)
  case atStart => exact ⟨rfl, Lib.hid (Below.refl _ _)⟩
  case round =>
    obtain ⟨rfl, HR⟩ := hrel
    go_wp2_with fail
    go_ret
    exact ⟨rfl, HR.out⟩

theorem zero_box {w : World} : (w.alloc (.cells #[.int .i64 0, .int .i64 0, .int .i64 0, .int .i64 0] 92)).heap[w.heap.size]? = some (.cells #[.int .i64 0, .int .i64 0, .int .i64 0, .int .i64 0] 92 (0, 0)) := heap_alloc_new _ _

set_option maxHeartbeats 1000000 in
set_option maxRecDepth 100000 in
theorem hullP_bad (n g o c : Nat) (B : Nat → Bx) (w : World) (hn : n ≤ 100000) (hB : BoxesAt w g o n B) (h : listErr B n ≠ 0) :
    Calls Try.prog 46 #[.slice (some ⟨g, o, none⟩) n c] w fun e w' => e = .returned (.tuple #[.agg #[.int .i64 0, .int .i64 0, .int .i64 0, .int .i64 0], .int .i64 (listErr B n)]) ∧ Below w.heap.size w w' := by
  obtain ⟨w1, hw1⟩ : ∃ w1, w1 = w.alloc (.cells #[.int .i64 0, .int .i64 0, .int .i64 0, .int .i64 0] 92) := ⟨_, rfl⟩
  have B1 : Below w.heap.size w w1 := by rw [hw1]; exact new_below _ _
  have qb : w1.heap[w.heap.size]? = some (.cells #[.int .i64 0, .int .i64 0, .int .i64 0, .int .i64 0] 92 (0, 0)) := by rw [hw1]; exact zero_box
  have HB := Lib.hid (hB.later B1)
  have H1 := Lib.hid B1
  have HQ := Lib.hid qb
  obtain ⟨E, hE⟩ : ∃ E, E = listErr B n := ⟨_, rfl⟩
  rw [← hE] at h ⊢
  have HE := Lib.hid hE
  have t1 : (E != 0) = true := by simpa using h
  clear hB B1 qb hE h
  go_enter Try.func46, Try.ntmps46
  go_upto_region 1 with (fail)
  rw [← hw1]
  clear hw1
  go_wp2_with fail
  refine (checkBoxes_any n g o c B w1 hn HB.out).mono ?_
  rintro e w2 ⟨rfl, hb2⟩
  rw [← HE.out]
  have G := Lib.hid (below_step H1.out hb2)
  obtain ⟨⟨j0, j1, j2, j3⟩, f0, f1, f2, f3⟩ := block4 (below_block hb2 HQ.out)
  clear hb2
  go_wp2_with fail
  exact bodyPost_ret (v := .tuple #[.agg #[.int .i64 0, .int .i64 0, .int .i64 0, .int .i64 0], .int .i64 E]) (by simp [results, Try.results46, go_sem, j0, j1, j2, j3]) rfl ⟨rfl, below_far4 G.out (Nat.le_refl _)⟩

set_option maxHeartbeats 1000000 in
set_option maxRecDepth 100000 in
theorem hullP_nil (s : Option Addr) (c : Nat) (w : World) :
    Calls Try.prog 46 #[.slice s 0 c] w fun e w' => e = .returned (.tuple #[.agg #[.int .i64 0, .int .i64 0, .int .i64 0, .int .i64 0], .int .i64 9]) ∧ Below w.heap.size w w' := by
  obtain ⟨w1, hw1⟩ : ∃ w1, w1 = w.alloc (.cells #[.int .i64 0, .int .i64 0, .int .i64 0, .int .i64 0] 92) := ⟨_, rfl⟩
  have H1 := Lib.hid (show Below w.heap.size w w1 by rw [hw1]; exact new_below _ _)
  have HQ := Lib.hid (show w1.heap[w.heap.size]? = some (.cells #[.int .i64 0, .int .i64 0, .int .i64 0, .int .i64 0] 92 (0, 0)) by rw [hw1]; exact zero_box)
  go_enter Try.func46, Try.ntmps46
  go_upto_region 1 with (fail)
  rw [← hw1]
  clear hw1
  go_wp2_with fail
  refine (checkBoxes_nil s c w1).mono ?_
  rintro e w2 ⟨rfl, hb2⟩
  have G := Lib.hid (below_step H1.out hb2)
  obtain ⟨⟨j0, j1, j2, j3⟩, f0, f1, f2, f3⟩ := block4 (below_block hb2 HQ.out)
  clear hb2
  go_wp2_with fail
  exact bodyPost_ret (v := .tuple #[.agg #[.int .i64 0, .int .i64 0, .int .i64 0, .int .i64 0], .int .i64 9]) (by simp [results, Try.results46, go_sem, j0, j1, j2, j3]) rfl ⟨rfl, below_far4 G.out (Nat.le_refl _)⟩

theorem set_agg2 {wx : World} {b : Nat} {x y x' y' : Value} {t : TypeId} (h : wx.heap[b]? = some (.cells #[x, y] t (0, 0))) :
    ((wx.setCell ⟨b, 0, none⟩ x').setCell ⟨b, 1, none⟩ y').heap[b]? = some (.cells #[x', y'] t (0, 0)) := by
  have e1 := heap_setB h (o := 0) (v := x')
  have e2 := heap_setB e1 (o := 1) (v := y')
  simpa using e2
theorem heap_setB' {w : World} {b c o : Nat} {v : Value} {x : Obj} (hne : b ≠ c) (h : w.heap[b]? = some x) : (w.setCell ⟨c, o, none⟩ v).heap[b]? = some x := (Below.heap_setCell _ _ _ _ hne).trans h
theorem below_in {N : Nat} {a w w' : World} (h : Below N a w) (hb : Below w.heap.size w w') (hN : N ≤ w.heap.size) : Below N a w' := h.trans (hb.mono hN)
theorem heap_at {w : World} {b : Nat} {o : Obj} (h : w.heap.size = b) : (w.alloc o).heap[b]? = some o := by subst h; exact heap_alloc_new w o
theorem heap_down {w : World} {b : Nat} {o x : Obj} (h : w.heap[b]? = some x) : (w.alloc o).heap[b]? = some x := below_block (new_below w o) h
theorem block2 {w : World} {b : Nat} {x y : Value} {t : TypeId} (h : w.heap[b]? = some (.cells #[x, y] t (0, 0))) :
    w.cell? ⟨b, 0, none⟩ = some x ∧ w.cell? ⟨b, 1, none⟩ = some y ∧ w.frozen? ⟨b, 0, none⟩ = false ∧ w.frozen? ⟨b, 1, none⟩ = false :=
  ⟨by rw [cell_of_row w b 0 _ t (0, 0) h]; rfl, by rw [cell_of_row w b 1 _ t (0, 0) h]; rfl, frozen_of_row w b 0 _ t h, frozen_of_row w b 1 _ t h⟩

/-- Two spans in memory. -/
structure Spans2 (N cb rb : Nat) (P Q : Int × Int) (w1 wx : World) : Prop where
  c : wx.heap[cb]? = some (.cells #[.int .i64 P.1, .int .i64 P.2] 115 (0, 0))
  r : wx.heap[rb]? = some (.cells #[.int .i64 Q.1, .int .i64 Q.2] 115 (0, 0))
  b : Below N w1 wx
  ne : cb ≠ rb
  lc : N ≤ cb
  lr : N ≤ rb

set_option maxHeartbeats 2000000 in
set_option maxRecDepth 100000 in
theorem hullP_ok (n g o c : Nat) (B : Nat → Bx) (w : World) (hn1 : 1 ≤ n) (hn : n ≤ 100000) (hB : BoxesAt w g o n B) (hOK : ∀ i, i < n → (B i).OK) (h : listErr B n = 0) :
    Calls Try.prog 46 #[.slice (some ⟨g, o, none⟩) n c] w fun e w' =>
      e = .returned (.tuple #[.agg #[.int .i64 (hullX B n).1, .int .i64 (hullY B n).1, .int .i64 ((hullX B n).2 - (hullX B n).1), .int .i64 ((hullY B n).2 - (hullY B n).1)], .int .i64 0]) ∧ Below w.heap.size w w' := by
  obtain ⟨w1, hw1⟩ : ∃ w1, w1 = w.alloc (.cells #[.int .i64 0, .int .i64 0, .int .i64 0, .int .i64 0] 92) := ⟨_, rfl⟩
  have B1 : Below w.heap.size w w1 := by rw [hw1]; exact new_below _ _
  have qb : w1.heap[w.heap.size]? = some (.cells #[.int .i64 0, .int .i64 0, .int .i64 0, .int .i64 0] 92 (0, 0)) := by rw [hw1]; exact zero_box
  have HB := Lib.hid (hB.later B1)
  have H1 := Lib.hid B1
  have HQ := Lib.hid qb
  have HX := Lib.hid (hullX_ok hn1 hOK)
  have HY := Lib.hid (hullY_ok hn1 hOK)
  have HO := Lib.hid hOK
  have HE := Lib.hid h
  have HG := Lib.hid (show g < w.heap.size by
    have := World.block_lt_of_cell? _ _ (hB 0 hn1).1.1
    simpa using this)
  have i1 : (0 : Int) < (n : Int) := by omega
  have i2 : ((n : Int) == 0) = false := by simp; omega
  clear hB B1 qb h hOK
  go_enter Try.func46, Try.ntmps46
  go_upto_region 1 with (fail)
  rw [← hw1]
  clear hw1
  go_wp2_with fail
  refine (checkBoxes_any n g o c B w1 hn HB.out).mono ?_
  rintro e w2 ⟨rfl, hb2⟩
  rw [HE.out]
  have G2 := Lib.hid (below_step H1.out hb2)
  have HQ2 := Lib.hid (below_block hb2 HQ.out)
  have HB2 := Lib.hid (HB.out.later hb2)
  clear hb2
  go_upto_region 6 with (fail)
  obtain ⟨⟨c0, c1⟩, c2, c3⟩ := HB2.out 0 hn1
  rw [Nat.zero_mul, Nat.add_zero] at c0 c1 c2 c3
  have HO0 := Lib.hid (HO.out 0 hn1)
  have HC := Lib.hid (show (-2000000 ≤ (B 0).x ∧ (B 0).x ≤ 2000000) ∧ (0 ≤ (B 0).w ∧ (B 0).w ≤ 2000000) by have := HO0.out; unfold Bx.OK BxOK at this; omega)
  have HR := Lib.hid (show (-2000000 ≤ (B 0).y ∧ (B 0).y ≤ 2000000) ∧ (0 ≤ (B 0).h ∧ (B 0).h ≤ 2000000) by have := HO0.out; unfold Bx.OK BxOK at this; omega)
  have EX := Lib.hid (show hullX B 0 = ((B 0).x, (B 0).x + (B 0).w) from rfl)
  have EY := Lib.hid (show hullY B 0 = ((B 0).y, (B 0).y + (B 0).h) from rfl)
  generalize B 0 = b0 at *
  obtain ⟨X, Y, U, V⟩ := b0
  simp only at c0 c1 c2 c3
  have i3 : 0 < n := hn1
  have hgl : g < w2.heap.size := by
    have := World.block_lt_of_cell? _ _ c0
    simpa using this
  have ne1 : w2.heap.size ≠ g := by omega
  have ne2 : w2.heap.size + 1 ≠ g := by omega
  have ne3 : w2.heap.size + 1 + 1 ≠ g := by omega
  have ne1' : g ≠ w2.heap.size := by omega
  have ne2' : g ≠ w2.heap.size + 1 := by omega
  have ne3' : g ≠ w2.heap.size + 1 + 1 := by omega
  have HS4 := Lib.hid (fun wx (hb : Below w2.heap.size w2 wx) => And.intro (cell_later hb c0) (And.intro (cell_later hb c1) (And.intro (cell_later hb c2) (cell_later hb c3))))
  go_cut [5, 6] from 19 to 27 (fun t5 t6 wx => ∃ cb rb : Nat, t5 = .pointer (some ⟨cb, 0, none⟩) ∧ t6 = .pointer (some ⟨rb, 0, none⟩) ∧ Hid (Spans2 (w.heap.size + 1) cb rb (hullX B 0) (hullY B 0) w2 wx))
  case first =>
    go_region_held3 (fun w' => w'.cell? ⟨g, o, none⟩ = some (.int .i64 X) ∧ w'.cell? ⟨g, o + 1, none⟩ = some (.int .i64 Y) ∧ w'.cell? ⟨g, o + 2, none⟩ = some (.int .i64 U) ∧ w'.cell? ⟨g, o + 3, none⟩ = some (.int .i64 V))
      (first | (go_keep; done) | (refine HS4.out _ ?_; (repeat (first | with_reducible exact Below.refl _ _ | with_reducible assumption | with_reducible refine below_alloc ?_ _ | with_reducible refine Below.drew ?_ | with_reducible refine below_step ?_ (by assumption))); done) | (trace_state; fail))
      ((first | (go_at_call 68; ((with_reducible refine (spanC_exact X Y U V _ HC.out.1 HC.out.2).mono ?_); rintro e wa ⟨rfl, rfl⟩)) | (go_at_call 69; ((with_reducible refine (spanR_exact X Y U V _ HR.out.1 HR.out.2).mono ?_); rintro e wb ⟨rfl, rfl⟩))))
    all_goals
      go_wp2_with fail
      go_meet
      case rel =>
        refine ⟨_, _, rfl, rfl, Lib.hid ⟨?_, ?_, ?_, ?_, ?_, ?_⟩⟩
        · rw [EX.out]; (repeat (first | (refine heap_at ?_; (first | rfl | (simp; done) | omega)) | refine heap_down ?_))
        · rw [EY.out]; (repeat (first | (refine heap_at ?_; (first | rfl | (simp; done) | omega)) | refine heap_down ?_))
        · refine Below.mono ?_ (show w.heap.size + 1 ≤ w2.heap.size from (Array.getElem?_eq_some_iff.1 HQ2.out).1)
          (repeat (first | with_reducible exact Below.refl _ _ | with_reducible assumption | with_reducible refine below_alloc ?_ _ | with_reducible refine Below.drew ?_ | with_reducible refine below_step ?_ (by assumption)))
        · (first | omega | (simp; done) | (simp; omega))
        · have := (Array.getElem?_eq_some_iff.1 HQ2.out).1
          (first | omega | (simp; done) | (simp; omega))
        · have := (Array.getElem?_eq_some_iff.1 HQ2.out).1
          (first | omega | (simp; done) | (simp; omega))
  case rest =>
    obtain ⟨w4, rfl⟩ : ∃ w4, w4 = wc := ⟨_, rfl⟩
    obtain ⟨cb, rb, rfl, rfl, HF⟩ := hcut
    clear c0 c1 c2 c3 HO0 HC HR EX EY hgl ne1 ne2 ne3 ne1' ne2' ne3' HS4
    have NE := HF.out.ne
    have NE' := HF.out.ne.symm
    go_wp2_with fail
    go_loopw [29] (fun i wr => ∃ k : Nat, k ≤ n ∧ i = .int .i64 k ∧ Hid (Spans2 (w.heap.size + 1) cb rb (hullX B k) (hullY B k) w2 wr)) (fun i _ => n - (intOf i).toNat)
    case atStart => exact ⟨0, Nat.zero_le _, rfl, HF⟩
    case round =>
      obtain ⟨k, hk, rfl, HR⟩ := hrel
      clear HF
      by_cases hlt : k < n
      · have j1 : (k : Int) < (n : Int) := by omega
        have hgw := HG.out
        obtain ⟨⟨c0, c1⟩, c2, c3⟩ := HB2.out k hlt
        have hcell : ∀ {a : Nat} {v : Value}, w2.cell? ⟨g, a, none⟩ = some v → wr.cell? ⟨g, a, none⟩ = some v := fun {a v} h => (HR.out.b.cell (p := ⟨g, a, none⟩) (show g < w.heap.size + 1 by omega)).trans h
        have c0 := hcell c0
        have c1 := hcell c1
        have c2 := hcell c2
        have c3 := hcell c3
        have ok := HO.out k hlt
        have hx := HX.out k hk
        have hy := HY.out k hk
        have sX : hullX B (k + 1) = (min (hullX B k).1 (B k).x, max (hullX B k).2 ((B k).x + (B k).w)) := rfl
        have sY : hullY B (k + 1) = (min (hullY B k).1 (B k).y, max (hullY B k).2 ((B k).y + (B k).h)) := rfl
        have HS2 := Lib.hid (And.intro sX sY)
        unfold Bx.OK BxOK at ok
        clear hcell sX sY hgw
        have HC := HR.out.c
        have HRr := HR.out.r
        have HBl := Lib.hid HR.out.b
        have lc := (Array.getElem?_eq_some_iff.1 HC).1
        have lr := (Array.getElem?_eq_some_iff.1 HRr).1
        have LL := Lib.hid (And.intro HR.out.lc HR.out.lr)
        clear HR
        generalize hullX B k = P at hx HS2 HC
        generalize hullY B k = Q at hy HS2 HRr
        generalize B k = b at *
        obtain ⟨p1, p2⟩ := P
        obtain ⟨q1, q2⟩ := Q
        obtain ⟨X, Y, U, V⟩ := b
        simp only at *
        have C1 := Lib.hid (show (-2000000 ≤ X ∧ X ≤ 2000000) ∧ (0 ≤ U ∧ U ≤ 2000000) by omega)
        have C2 := Lib.hid (show (-2000000 ≤ Y ∧ Y ≤ 2000000) ∧ (0 ≤ V ∧ V ≤ 2000000) by omega)
        clear ok hx hy
        go_upto_region 10 with (fail)
        obtain ⟨w3, hw3⟩ : ∃ w3, w3 = wr.alloc (.cells #[.int .i64 X, .int .i64 Y, .int .i64 U, .int .i64 V] 92) := ⟨_, rfl⟩
        have hb3 : Below wr.heap.size wr w3 := by rw [hw3]; exact new_below _ _
        have x3 : w3.heap[wr.heap.size]? = some (.cells #[.int .i64 X, .int .i64 Y, .int .i64 U, .int .i64 V] 92 (0, 0)) := by rw [hw3]; exact heap_alloc_new _ _
        rw [← hw3]
        clear hw3 c0 c1 c2 c3
        have HC3 := below_block hb3 HC
        have HR3 := below_block hb3 HRr
        obtain ⟨bb, hbb⟩ : ∃ bb, bb = wr.heap.size := ⟨_, rfl⟩
        rw [← hbb] at x3 ⊢
        have n1 : cb ≠ bb := by omega
        have n2 : rb ≠ bb := by omega
        have n1' : bb ≠ cb := by omega
        have n2' : bb ≠ rb := by omega
        have B3 := Lib.hid (HBl.out.trans (hb3.mono (show w.heap.size + 1 ≤ wr.heap.size by have := LL.out; omega)))
        clear hb3 HC HRr hbb
        obtain ⟨⟨d0, d1, d2, d3⟩, _, _, _, _⟩ := block4 x3
        obtain ⟨k0, k1, f0, f1⟩ := block2 HC3
        obtain ⟨k2, k3, f2, f3⟩ := block2 HR3
        have lb3 := (Array.getElem?_eq_some_iff.1 x3).1
        have lc3 := (Array.getElem?_eq_some_iff.1 HC3).1
        have lr3 := (Array.getElem?_eq_some_iff.1 HR3).1
        go_cut [] from 33 to 37 (fun wx => Hid (wx.heap[cb]? = some (.cells #[.int .i64 (min p1 X), .int .i64 (max p2 (X + U))] 115 (0, 0)) ∧ wx.heap[rb]? = some (.cells #[.int .i64 q1, .int .i64 q2] 115 (0, 0)) ∧
            wx.heap[bb]? = some (.cells #[.int .i64 X, .int .i64 Y, .int .i64 U, .int .i64 V] 92 (0, 0)) ∧ Below (w.heap.size + 1) w2 wx))
        case first =>
          go_region_law ((first | (go_simp; go_at_call 68; ((with_reducible refine (spanC_any X Y U V _ C1.out.1 C1.out.2).mono ?_); rintro e wa ⟨rfl, ha⟩; have hc := below_block ha (show w3.drew.heap[cb]? = _ from HC3); have hr := below_block ha (show w3.drew.heap[rb]? = _ from HR3); have hx := below_block ha (show w3.drew.heap[bb]? = _ from x3); obtain ⟨k0a, k1a, f0a, f1a⟩ := block2 hc; obtain ⟨k2a, k3a, f2a, f3a⟩ := block2 hr; obtain ⟨⟨d0a, d1a, d2a, d3a⟩, _, _, _, _⟩ := block4 hx)) | (go_simp; go_at_call 70; ((with_reducible refine (over_any _ _ _ _ _).mono ?_); rintro e wb ⟨rfl, hb⟩; have hc2 := below_block hb hc; have hr2 := below_block hb hr; have hx2 := below_block hb hx; obtain ⟨k0b, k1b, f0b, f1b⟩ := block2 hc2; obtain ⟨k2b, k3b, f2b, f3b⟩ := block2 hr2))))
          all_goals
            go_wp2_with fail
            go_meet
            case rel =>
              refine Lib.hid ⟨set_agg2 hc2, (heap_setB' NE' (heap_setB' NE' hr2)), (heap_setB' n1' (heap_setB' n1' hx2)), ?_⟩
              exact ((below_in B3.out (below_step (below_step (Below.refl w3.heap.size w3).drew ha) hb) (by have := LL.out; omega)).setCell LL.out.1 _).setCell LL.out.1 _
        case rest =>
          obtain ⟨w5, rfl⟩ : ∃ w5, w5 = wc := ⟨_, rfl⟩
          obtain ⟨C5, R5, X5, B5⟩ := hcut.out
          have HB5 := Lib.hid B5
          clear hcut B5 HC3 HR3 x3 d0 d1 d2 d3 k0 k1 k2 k3 f0 f1 f2 f3 lb3 lc3 lr3 B3
          obtain ⟨⟨d0, d1, d2, d3⟩, _, _, _, _⟩ := block4 X5
          obtain ⟨k0, k1, f0, f1⟩ := block2 C5
          obtain ⟨k2, k3, f2, f3⟩ := block2 R5
          have lb3 := (Array.getElem?_eq_some_iff.1 X5).1
          have lc3 := (Array.getElem?_eq_some_iff.1 C5).1
          have lr3 := (Array.getElem?_eq_some_iff.1 R5).1
          go_wp2_with fail
          go_region_law ((first | (go_simp; go_at_call 69; ((with_reducible refine (spanR_any X Y U V _ C2.out.1 C2.out.2).mono ?_); rintro e wa ⟨rfl, ha⟩; have hc := below_block ha (show w5.drew.heap[cb]? = _ from C5); have hr := below_block ha (show w5.drew.heap[rb]? = _ from R5); have hx := below_block ha (show w5.drew.heap[bb]? = _ from X5); obtain ⟨k0a, k1a, f0a, f1a⟩ := block2 hc; obtain ⟨k2a, k3a, f2a, f3a⟩ := block2 hr; obtain ⟨⟨d0a, d1a, d2a, d3a⟩, _, _, _, _⟩ := block4 hx)) | (go_simp; go_at_call 70; ((with_reducible refine (over_any _ _ _ _ _).mono ?_); rintro e wb ⟨rfl, hb⟩; have hc2 := below_block hb hc; have hr2 := below_block hb hr; have hx2 := below_block hb hx; obtain ⟨k0b, k1b, f0b, f1b⟩ := block2 hc2; obtain ⟨k2b, k3b, f2b, f3b⟩ := block2 hr2))))
          all_goals
            go_wp2_with fail
            go_roundw
            case rel =>
              refine ⟨k + 1, by omega, by go_num, Lib.hid ⟨?_, ?_, ?_, NE, LL.out.1, LL.out.2⟩⟩
              · rw [HS2.out.1]
                exact heap_setB' NE (heap_setB' NE hc2)
              · rw [HS2.out.2]
                exact set_agg2 hr2
              · exact ((below_in HB5.out (below_step (below_step (Below.refl w5.heap.size w5).drew ha) hb) (by have := LL.out; omega)).setCell LL.out.2 _).setCell LL.out.2 _
            case measure => simp [intOf]; omega
      · obtain rfl : k = n := by omega
        have HX9 := HX.out k (Nat.le_refl _)
        have HY9 := HY.out k (Nat.le_refl _)
        have K1 := Lib.hid (show (-5000000 ≤ (hullX B k).1 ∧ (hullX B k).1 ≤ 5000000) ∧ (-5000000 ≤ (hullX B k).2 ∧ (hullX B k).2 ≤ 5000000) by omega)
        have K2 := Lib.hid (show (-5000000 ≤ (hullY B k).1 ∧ (hullY B k).1 ≤ 5000000) ∧ (-5000000 ≤ (hullY B k).2 ∧ (hullY B k).2 ≤ 5000000) by omega)
        obtain ⟨k0, k1, f0, f1⟩ := block2 HR.out.c
        obtain ⟨k2, k3, f2, f3⟩ := block2 HR.out.r
        have QR := Lib.hid ((HR.out.b.block w.heap.size (by omega)).trans HQ2.out)
        have GR := Lib.hid (G2.out.trans (HR.out.b.mono (show w.heap.size ≤ w.heap.size + 1 by omega)))
        clear HX9 HY9
        go_wp2_with fail
        refine (boxOf_any _ _ _ _ wr K1.out K2.out).mono ?_
        rintro e w7 ⟨rfl, hb7⟩
        obtain ⟨⟨j0, j1, j2, j3⟩, g0, g1, g2, g3⟩ := block4 (below_block hb7 QR.out)
        have G := Lib.hid (below_step GR.out hb7)
        clear hb7 k0 k1 k2 k3 f0 f1 f2 f3
        go_wp2_with fail
        exact bodyPost_ret (v := .tuple #[.agg #[.int .i64 (hullX B k).1, .int .i64 (hullY B k).1, .int .i64 ((hullX B k).2 - (hullX B k).1), .int .i64 ((hullY B k).2 - (hullY B k).1)], .int .i64 0]) (by simp [results, Try.results46, go_sem, j0, j1, j2, j3]) rfl ⟨rfl, below_far4 G.out (Nat.le_refl _)⟩

end Go.Proofs.Ytmoplmjfnjgcaaa
namespace Go.Proofs.Ytmoplmjfnjgcaaa
open Go.RowKit
set_option linter.unusedSimpArgs false
set_option linter.unusedVariables false

/-- On the way: i of them have been looked at, F of these were kept. -/
structure MidIn (w : World) (b off : Nat) (R : List Nat) (i : Nat) (F : List Nat) : Prop where
  le : F.length ≤ i
  new : ∀ j, j < F.length → w.cell? ⟨b, off + j, none⟩ = some (.int .i64 ((F.getD j 0 : Nat) : Int))
  old : ∀ j, i ≤ j → j < R.length → w.cell? ⟨b, off + j, none⟩ = some (.int .i64 ((R.getD j 0 : Nat) : Int))
  all : ∀ j, j < R.length → (w.cell? ⟨b, off + j, none⟩).isSome = true ∧ w.frozen? ⟨b, off + j, none⟩ = false

theorem MidIn.block {w w' : World} {b off i : Nat} {R F : List Nat} (h : MidIn w b off R i F) (e : w'.heap[b]? = w.heap[b]?) : MidIn w' b off R i F :=
  ⟨h.le, fun j hj => (World.cell?_of_block (a := ⟨b, off + j, none⟩) e).trans (h.new j hj), fun j h1 hj => (World.cell?_of_block (a := ⟨b, off + j, none⟩) e).trans (h.old j h1 hj), fun j hj => ⟨by rw [World.cell?_of_block (a := ⟨b, off + j, none⟩) e]; exact (h.all j hj).1, (World.frozen?_of_block (a := ⟨b, off + j, none⟩) e).trans (h.all j hj).2⟩⟩
def natsOf (l : List Nat) : List Value := l.map fun x => Value.int .i64 ((x : Nat) : Int)
theorem natsOf_get (l : List Nat) (j : Nat) (h : j < l.length) : (natsOf l)[j]? = some (.int .i64 ((l.getD j 0 : Nat) : Int)) := by simp [natsOf, List.getD, h]
theorem natsOf_snoc (l : List Nat) (x : Nat) : natsOf l ++ [.int .i64 ((x : Nat) : Int)] = natsOf (l ++ [x]) := by simp [natsOf]

end Go.Proofs.Ytmoplmjfnjgcaaa
namespace Go.Proofs.Ytmoplmjfnjgcaaa
open Go.RowKit
set_option linter.unusedSimpArgs false
set_option linter.unusedVariables false

/-- A group in memory of the call's own. -/
def Grown (w : World) (B : Nat) (v : Value) (G : List Nat) : Prop := w.ownsRow B 3 1 v G.length (natsOf G)
theorem Grown.cell {w : World} {B gb cg k : Nat} {G : List Nat} (h : Grown w B (.slice (some ⟨gb, 0, none⟩) G.length cg) G) (hk : k < G.length) : w.cell? ⟨gb, k, none⟩ = some (.int .i64 ((G.getD k 0 : Nat) : Int)) := by
  have := h.cellAt k (by omega)
  rw [natsOf_get _ _ hk] at this
  exact this
theorem Grown.later {w w' : World} {B : Nat} {v : Value} {G : List Nat} (h : Grown w B v G) (hb : Below w.heap.size w w') : Grown w' B v G := below_owns h hb

theorem Grown.alloc {w : World} {B : Nat} {v : Value} {G : List Nat} (h : Grown w B v G) (o : Obj) : Grown (w.alloc o) B v G := World.ownsRow.alloc h o
theorem Grown.lt {w : World} {B : Nat} {v : Value} {G : List Nat} (h : Grown w B v G) (j : Nat) (hj : v.ownBlock = some j) : B ≤ j := (World.ownsRow.lt h j hj).1
theorem MidIn.alloc {w : World} {b off i B : Nat} {R F : List Nat} (h : MidIn w b off R i F) (hb : b < B) (hB : B ≤ w.heap.size) (o : Obj) : MidIn (w.alloc o) b off R i F := h.block (Below.heap_alloc w o b (by omega))
end Go.Proofs.Ytmoplmjfnjgcaaa
namespace Go.Proofs.Ytmoplmjfnjgcaaa
open Go.RowKit
set_option linter.unusedSimpArgs false
set_option linter.unusedVariables false

/-- A sorted group in memory of the call's own. -/
def GrpAt (w : World) (N : Nat) (v : Value) (L : List Int) : Prop :=
  ∃ gb c, v = .slice (some ⟨gb, 0, none⟩) L.length c ∧ N ≤ gb ∧ (∀ j, j < L.length → w.cell? ⟨gb, 0 + j, none⟩ = some (.int .i64 (L.getD j 0))) ∧ ∃ cur fr, w.heap[gb]? = some (.cells cur 3 fr)
def Lists (w : World) (N : Nat) (Ls : List (List Int)) (vals : List Value) : Prop := vals.length = Ls.length ∧ ∀ i, i < Ls.length → GrpAt w N (vals.getD i (.bool false)) (Ls.getD i [])

theorem Lists.nil (w : World) (N : Nat) : Lists w N [] [] := ⟨rfl, fun i hi => by simp at hi⟩
theorem Lists.kept {w w' : World} {N : Nat} {Ls : List (List Int)} {vals : List Value} (h : Lists w N Ls vals) (k : ∀ g cur fr, N ≤ g → w.heap[g]? = some (.cells cur 3 fr) → w'.heap[g]? = w.heap[g]?) : Lists w' N Ls vals := by
  refine ⟨h.1, fun i hi => ?_⟩
  obtain ⟨gb, c, e, hN, hc, cur, fr, hh⟩ := h.2 i hi
  have hb := k gb cur fr hN hh
  exact ⟨gb, c, e, hN, fun j hj => (World.cell?_of_block (a := ⟨gb, 0 + j, none⟩) hb).trans (hc j hj), cur, fr, hb.trans hh⟩
theorem Lists.snoc {w : World} {N : Nat} {Ls : List (List Int)} {vals : List Value} {v : Value} {L : List Int} (h : Lists w N Ls vals) (hv : GrpAt w N v L) : Lists w N (Ls ++ [L]) (vals ++ [v]) := by
  obtain ⟨h1, h2⟩ := h
  refine ⟨by simp [h1], fun i hi => ?_⟩
  rw [List.length_append, List.length_singleton] at hi
  by_cases e : i = Ls.length
  · subst e
    have e1 : (vals ++ [v]).getD Ls.length (.bool false) = v := by simp [List.getD, ← h1]
    have e2 : (Ls ++ [L]).getD Ls.length [] = L := by simp [List.getD]
    rw [e1, e2]; exact hv
  · have e1 : (vals ++ [v]).getD i (.bool false) = vals.getD i (.bool false) := by simp only [List.getD]; rw [List.getElem?_append_left (by omega)]
    have e2 : (Ls ++ [L]).getD i [] = Ls.getD i [] := by simp only [List.getD]; rw [List.getElem?_append_left (by omega)]
    rw [e1, e2]; exact h2 i (by omega)

end Go.Proofs.Ytmoplmjfnjgcaaa
namespace Go.Proofs.Ytmoplmjfnjgcaaa
open Go.RowKit
set_option linter.unusedSimpArgs false
set_option linter.unusedVariables false

theorem info_ints : (Try.prog.info? 55).map (fun i => (i.zero, i.size, i.bytes)) = some (some (.slice none 0 0), 1, 24) := by kernel_rfl

end Go.Proofs.Ytmoplmjfnjgcaaa
namespace Go.Proofs.Ytmoplmjfnjgcaaa
open Go.RowKit
set_option linter.unusedSimpArgs false
set_option linter.unusedVariables false

theorem eqGroups_zero (a b : Option Addr) (c d : Nat) (f : Value) (w : World) :
    Calls Try.prog 25 #[.slice a 0 c, .slice b 0 d, f] w fun e w' => e = .returned (.bool true) ∧ w = w' := by
  go_enter Try.func25, Try.ntmps25
  go_wp2_with fail
  go_loop [17] (fun i => i = .int .i64 0) (fun _ => 0)
  case atStart => rfl
  case round =>
    subst hrel
    go_wp2_with fail
    go_ret
    exact ⟨rfl, rfl⟩

set_option maxHeartbeats 1000000 in
set_option maxRecDepth 100000 in
theorem eqGroups_some (g1 g2 c1 c2 N1 N2 : Nat) (Ls : List (List Int)) (v1 v2 : List Value) (w : World) (hl : Ls.length ≤ 60) (hLL : ∀ i, (Ls.getD i []).length ≤ 200000)
    (h1 : w.ownsRow N1 55 1 (.slice (some ⟨g1, 0, none⟩) Ls.length c1) Ls.length v1) (k1 : Lists w N1 Ls v1)
    (h2 : w.ownsRow N2 55 1 (.slice (some ⟨g2, 0, none⟩) Ls.length c2) Ls.length v2) (k2 : Lists w N2 Ls v2) :
    Calls Try.prog 25 #[.slice (some ⟨g1, 0, none⟩) Ls.length c1, .slice (some ⟨g2, 0, none⟩) Ls.length c2, .func (.func 26) #[] #[]] w fun e w' => e = .returned (.bool true) ∧ ∃ q, w' = w.drewN q := by
  have H1 := Lib.hid h1
  have H2 := Lib.hid h2
  have K1 := Lib.hid k1
  have K2 := Lib.hid k2
  have HL := Lib.hid hLL
  obtain ⟨n, hn⟩ : ∃ n, n = Ls.length := ⟨_, rfl⟩
  have HN := Lib.hid hn
  rw [← hn] at hl ⊢
  clear h1 h2 k1 k2 hLL hn
  go_enter Try.func25, Try.ntmps25
  go_wp2_with fail
  go_loopw [17] (fun i wr => ∃ k q : Nat, k ≤ n ∧ i = .int .i64 k ∧ wr = w.drewN q) (fun i _ => n - (intOf i).toNat)
  case atStart => exact ⟨0, 0, Nat.zero_le _, rfl, rfl⟩
  case round =>
    obtain ⟨k, q, hk, rfl, rfl⟩ := hrel
    by_cases hlt : k < n
    · have hkn : k < Ls.length := by have := HN.out; omega
      obtain ⟨b1, d1, e1, _, f1, _⟩ := K1.out.2 k hkn
      obtain ⟨b2, d2, e2, _, f2, _⟩ := K2.out.2 k hkn
      have r1 : w.cell? ⟨g1, k, none⟩ = some (.slice (some ⟨b1, 0, none⟩) (Ls.getD k []).length d1) := by
        rw [H1.out.cellAt k (by omega)]
        have : k < v1.length := by rw [K1.out.1]; exact hkn
        rw [← e1]
        simp [List.getD, this]
      have r2 : w.cell? ⟨g2, k, none⟩ = some (.slice (some ⟨b2, 0, none⟩) (Ls.getD k []).length d2) := by
        rw [H2.out.cellAt k (by omega)]
        have : k < v2.length := by rw [K2.out.1]; exact hkn
        rw [← e2]
        simp [List.getD, this]
      have HQ := Lib.hid (equalInt_true b1 0 b2 0 (Ls.getD k []).length d1 d2 (fun j => (Ls.getD k []).getD j 0) (w.drewN q) (by have := HL.out k; omega) (fun j hj => f1 j hj) (fun j hj => f2 j hj))
      have i1 : (k : Int) < (n : Int) := by omega
      generalize Ls.getD k [] = L at *
      clear e1 e2 f1 f2 hkn
      go_wp2_with fail
      refine HQ.out.mono ?_
      rintro e w6 ⟨rfl, q2, rfl⟩
      go_wp2_with fail
      go_roundw
      case rel => exact ⟨k + 1, _, by omega, by go_num, rfl⟩
      case measure => simp [intOf]; omega
    · obtain rfl : k = n := by omega
      go_wp2_with fail
      go_ret
      exact ⟨rfl, q, rfl⟩

end Go.Proofs.Ytmoplmjfnjgcaaa
namespace Go.Proofs.Ytmoplmjfnjgcaaa
open Go.ChangeShapes Go.WideShapes Go.ChangeAt Go.RowKit Go.Joins
open Go.ChangeMaps (open_string shut_string)
set_option linter.unusedVariables false

theorem cellsBox : Try.prog.cellsOf 92 = 4 := by kernel_rfl

instance : Inhabited Bx := ⟨⟨0, 0, 0, 0⟩⟩

set_option maxRecDepth 100000 in
/-- Four cells that read as a box. -/
theorem box_cells {H : Type} {enc : TypeId × Value → H} {w : World} {base fuel : Nat} {spare : Nat → Bool} {held : Bool} {cs : List Value} {y : DataW H × List MemPlace}
    (h : DataW.trod enc Try.prog w base spare held fuel 92 cs = some y) (hl : cs.length = 4) : ∃ b : Bx, cs = [.int .i64 b.x, .int .i64 b.y, .int .i64 b.w, .int .i64 b.h] := by
  obtain ⟨y0, y1, y2, y3, n, _, _, h0, h1, h2, h3⟩ := trod_struct4 Try.underlying92 h
  match cs, hl with
  | [c0, c1, c2, c3], _ =>
    have ci : Try.prog.cellsOf 3 = 1 := by kernel_rfl
    simp only [ci, List.drop_zero, List.drop_succ_cons, List.take_succ_cons, List.take_zero] at h0 h1 h2 h3
    obtain ⟨a0, e0, _, _⟩ := DataW.trod_int Try.underlying3 h0
    obtain ⟨a1, e1, _, _⟩ := DataW.trod_int Try.underlying3 h1
    obtain ⟨a2, e2, _, _⟩ := DataW.trod_int Try.underlying3 h2
    obtain ⟨a3, e3, _, _⟩ := DataW.trod_int Try.underlying3 h3
    simp at e0 e1 e2 e3
    exact ⟨⟨a0, a1, a2, a3⟩, by rw [e0, e1, e2, e3]⟩

/-- A slice of boxes: without any, or cell by cell. -/
def IsBoxes (w : World) (s : Option Addr) (n c : Nat) (B : Nat → Bx) : Prop := (n = 0 ∧ (s = none → c = 0)) ∨ ∃ g o, s = some ⟨g, o, none⟩ ∧ n ≤ c ∧ BoxesAt w g o n B

set_option maxRecDepth 100000 in
theorem open_boxesN {W : World} {H : Type} {enc : TypeId × Value → H} {base : Nat} {held : Bool} {r : Reach} {b0 : Nat} {v : Value} {d : DataW H} {p : List MemPlace}
    (hv : Value.okWide Try.prog W r b0 51 v) (h : DataW.Trod enc Try.prog W base (fun _ => true) held 51 v d p) :
    ∃ s n c B, v = .slice s n c ∧ IsBoxes W s n c B ∧ n ≤ 9223372036854775807 := by
  obtain ⟨a1, len, cap, rfl⟩ := okWide_slice Try.underlying51 hv
  obtain ⟨fuel, hf⟩ := h
  rcases Go.Deep.open_slice Try.underlying51 hf with ⟨hcs, _⟩ | ⟨x, l, c, m, k, D, Pl, hcs, _, hl, hm, hmm, _, hcell⟩
  · simp [Value.cells] at hcs
    obtain ⟨rfl, rfl, rfl⟩ := hcs
    exact ⟨none, 0, 0, fun _ => default, rfl, .inl ⟨rfl, fun _ => rfl⟩, by decide⟩
  · simp [Value.cells] at hcs
    obtain ⟨rfl, rfl, rfl⟩ := hcs
    simp only [if_true] at hmm
    subst hmm
    obtain ⟨B, hB⟩ := Go.Deep.choose_lt (α := Bx) (p := fun i b => ((W.cell? ((x.add (i * 4)).add 0) = some (.int .i64 b.x) ∧ W.cell? ((x.add (i * 4)).add 1) = some (.int .i64 b.y)) ∧ (W.cell? ((x.add (i * 4)).add 2) = some (.int .i64 b.w) ∧ W.cell? ((x.add (i * 4)).add 3) = some (.int .i64 b.h)))) (fun i hi => by
      obtain ⟨cs', hc, ht⟩ := hcell i hi
      rw [cellsBox] at hc
      obtain ⟨_, hlen, hat⟩ := World.cells?_some hc
      obtain ⟨b, rfl⟩ := box_cells ht hlen
      exact ⟨b, ⟨hat 0 (by omega), hat 1 (by omega)⟩, hat 2 (by omega), hat 3 (by omega)⟩)
    refine ⟨some x, _, _, B, rfl, ?_, by unfold maxLen at hm; omega⟩
    by_cases h0 : len = 0
    · exact .inl ⟨h0, fun e => by cases e⟩
    · obtain ⟨g, o, spot⟩ := x
      have hspot : spot = none := by
        have := World.cell?_spot (hB 0 (by omega)).1.1
        simpa [Addr.add] using this
      subst hspot
      refine .inr ⟨g, o, rfl, hl, fun i hi => ?_⟩
      obtain ⟨⟨h1, h2⟩, h3, h4⟩ := hB i (by omega)
      rw [Addr.add_lit, Addr.add_lit] at h1 h2 h3 h4
      exact ⟨⟨h1, h2⟩, h3, h4⟩

end Go.Proofs.Ytmoplmjfnjgcaaa
namespace Go.Proofs.Ytmoplmjfnjgcaaa
open Go.RowKit
set_option linter.unusedSimpArgs false
set_option linter.unusedVariables false

theorem errs_ok {B : Nat → Bx} {n : Nat} (h : firstErr B n = 0) : ∀ i, i < n → (B i).OK := by
  induction n with
  | zero => intro i hi; omega
  | succ n ih =>
    rw [firstErr] at h
    by_cases h0 : firstErr B n = 0
    · rw [if_pos h0] at h
      intro i hi
      by_cases e : i = n
      · subst e
        unfold Bx.err bxErr at h
        unfold Bx.OK BxOK
        by_cases hk : ((-1048576 ≤ (B i).x ∧ (B i).x ≤ 1048576) ∧ (-1048576 ≤ (B i).y ∧ (B i).y ≤ 1048576)) ∧ (1 ≤ (B i).w ∧ (B i).w ≤ 1048576) ∧ (1 ≤ (B i).h ∧ (B i).h ≤ 1048576)
        · exact hk
        · rw [if_neg hk] at h; simp at h
      · exact ih h0 i (by omega)
    · rw [if_neg h0] at h; exact absurd h h0

theorem box4_later {w w' : World} {b : Nat} {x y z u : Value} {t : TypeId} (h : w.heap[b]? = some (.cells #[x, y, z, u] t (0, 0))) (hb : Below w.heap.size w w') :
    w'.cell? ⟨b, 0, none⟩ = some x ∧ w'.cell? ⟨b, 1, none⟩ = some y ∧ w'.cell? ⟨b, 2, none⟩ = some z ∧ w'.cell? ⟨b, 3, none⟩ = some u := by
  obtain ⟨⟨j0, j1, j2, j3⟩, _⟩ := block4 (below_block hb h)
  exact ⟨j0, j1, j2, j3⟩

theorem owns_some {w : World} {N : Nat} {e : TypeId} {v : Value} {n : Nat} {xs : List Value} (h : w.ownsRow N e 1 v n xs) (hn : 0 < n) : ∃ g c, v = .slice (some ⟨g, 0, none⟩) n c := by
  rcases h.2 with ⟨h0, h1⟩ | ⟨g', cap, cur, h0, _⟩
  · omega
  · exact ⟨g', cap, h0⟩
end Go.Proofs.Ytmoplmjfnjgcaaa
namespace Go.Proofs.Ytmoplmjfnjgcaaa
open Go.RowKit
set_option linter.unusedSimpArgs false
set_option linter.unusedVariables false

/-- The parts behind k numbers: those that are closed, and the last one. -/
def parP (bg : Nat → Bool) : Nat → List (List Nat) × List Nat
  | 0 => ([], [])
  | k + 1 => if bg k then (if k = 0 then ([], [0]) else ((parP bg k).1 ++ [(parP bg k).2], [k])) else ((parP bg k).1, (parP bg k).2 ++ [k])

theorem parP_count (bg : Nat → Bool) (k : Nat) (h0 : bg 0 = true) : (parP bg k).1.length ≤ k ∧ ((parP bg k).1.map List.length).sum + (parP bg k).2.length = k ∧ (0 < k → (parP bg k).1.length < k ∧ 0 < (parP bg k).2.length) ∧ ∀ L, L ∈ (parP bg k).1 → 0 < L.length ∧ L.length ≤ k := by
  induction k with
  | zero => simp [parP]
  | succ k ih =>
    obtain ⟨i1, i2, i3, i4⟩ := ih
    rw [parP]
    by_cases hb : bg k = true
    · rw [if_pos hb]
      by_cases hk : k = 0
      · subst hk; simp
      · obtain ⟨j1, j2⟩ := i3 (by omega)
        rw [if_neg hk]
        refine ⟨by simp; omega, by simp; omega, fun _ => by simp; omega, fun L hL => ?_⟩
        rcases List.mem_append.1 hL with hL | hL
        · have := i4 L hL; omega
        · have : L = (parP bg k).2 := by simpa using hL
          subst this
          omega
    · rw [if_neg hb]
      have hk : 0 < k := by
        rcases Nat.eq_zero_or_pos k with h | h
        · subst h; exact absurd h0 hb
        · exact h
      refine ⟨by simp; omega, by simp; omega, fun _ => ⟨by have := i3 hk; simp; omega, by simp⟩, fun L hL => by have := i4 L hL; omega⟩

theorem getD_snoc {α : Type} (l : List α) (x d : α) : (l ++ [x]).getD l.length d = x := by simp [List.getD]
theorem getD_left {α : Type} (l : List α) (x d : α) (i : Nat) (h : i < l.length) : (l ++ [x]).getD i d = l.getD i d := by simp only [List.getD]; rw [List.getElem?_append_left h]

/-- Lists of numbers, each in memory of the call's own. -/
def Owned (w : World) (N : Nat) (Ls : List (List Nat)) (vals : List Value) : Prop :=
  vals.length = Ls.length ∧ ∀ i, i < Ls.length → w.ownsRow N 3 1 (vals.getD i (.bool false)) (Ls.getD i []).length (natsOf (Ls.getD i []))
def Closed (w : World) (N : Nat) (Ls : List (List Nat)) (v : Value) : Prop :=
  ∃ vals, w.ownsRow N 55 1 v Ls.length vals ∧ Owned w N Ls vals
/-- The last list still grows. -/
def Opened (w : World) (N : Nat) (Ls : List (List Nat)) (L : List Nat) (v : Value) : Prop :=
  ∃ vals u M, w.ownsRow N 55 1 v (Ls.length + 1) (vals ++ [u]) ∧ Owned w N Ls vals ∧ (∀ i, i < Ls.length → ∀ j, (vals.getD i (.bool false)).ownBlock = some j → j < M) ∧ w.ownsRow M 3 1 u L.length (natsOf L) ∧ N ≤ M ∧ M ≤ w.heap.size

theorem Closed.nil (w : World) (N : Nat) : Closed w N [] (.slice none 0 0) := ⟨[], World.ownsRow_nil _ _ _ _, rfl, fun i hi => by simp at hi⟩
theorem Owned.snoc {w : World} {N : Nat} {Ls : List (List Nat)} {vals : List Value} {u : Value} {L : List Nat} (h : Owned w N Ls vals) (hu : w.ownsRow N 3 1 u L.length (natsOf L)) : Owned w N (Ls ++ [L]) (vals ++ [u]) := by
  obtain ⟨h1, h2⟩ := h
  refine ⟨by simp [h1], fun i hi => ?_⟩
  rw [List.length_append, List.length_singleton] at hi
  by_cases e : i = Ls.length
  · subst e
    rw [getD_snoc, show (vals ++ [u]).getD Ls.length (.bool false) = u by rw [← h1]; exact getD_snoc _ _ _]
    exact hu
  · rw [getD_left _ _ _ _ (by omega), getD_left _ _ _ _ (by omega)]
    exact h2 i (by omega)
theorem Opened.closed {w : World} {N : Nat} {Ls : List (List Nat)} {L : List Nat} {v : Value} (h : Opened w N Ls L v) : Closed w N (Ls ++ [L]) v := by
  obtain ⟨vals, u, M, h1, h2, _, h4, h5, _⟩ := h
  exact ⟨vals ++ [u], by rw [List.length_append, List.length_singleton]; exact h1, h2.snoc (owns_base h4 h5)⟩
theorem owned_below {w w' : World} {N : Nat} {Ls : List (List Nat)} {vals : List Value} (h : Owned w N Ls vals) (hb : Below w.heap.size w w') : Owned w' N Ls vals :=
  ⟨h.1, fun i hi => below_owns (h.2 i hi) hb⟩
theorem Closed.later {w w' : World} {N : Nat} {Ls : List (List Nat)} {v : Value} (h : Closed w N Ls v) (hb : Below w.heap.size w w') : Closed w' N Ls v := by
  obtain ⟨vals, h1, h2⟩ := h
  exact ⟨vals, below_owns h1 hb, owned_below h2 hb⟩
theorem Opened.later {w w' : World} {N : Nat} {Ls : List (List Nat)} {L : List Nat} {v : Value} (h : Opened w N Ls L v) (hb : Below w.heap.size w w') : Opened w' N Ls L v := by
  obtain ⟨vals, u, M, h1, h2, h3, h4, h5, h6⟩ := h
  exact ⟨vals, u, M, below_owns h1 hb, owned_below h2 hb, h3, below_owns h4 hb, h5, Nat.le_trans h6 hb.size⟩

/-- A row of another type lies in another block. -/
theorem not_block {w : World} {N M : Nat} {e e' : TypeId} {v u : Value} {n m : Nat} {xs ys : List Value} (he : e ≠ e') (h : w.ownsRow N e 1 v n xs) (k : w.ownsRow M e' 1 u m ys) : u.ownBlock = none ∨ u.ownBlock ≠ v.ownBlock := by
  rcases k.2 with ⟨h0, _⟩ | ⟨g', cap', cur', h0, hb', hh', _⟩
  · subst h0; exact .inl rfl
  · subst h0
    refine .inr (fun e1 => ?_)
    rcases h.2 with ⟨k0, _⟩ | ⟨g, cap, cur, k0, hb, hh, _⟩
    · subst k0; simp [Value.ownBlock] at e1
    · subst k0
      simp [Value.ownBlock] at e1
      subst e1
      rw [hh] at hh'
      simp at hh'
      exact he hh'.2

/-- A list begins: an empty one is appended. -/
theorem Closed.begin {w w' : World} {N : Nat} {Ls : List (List Nat)} {v v' : Value} {vals : List Value} (h1 : w.ownsRow N 55 1 v Ls.length vals) (h2 : Owned w N Ls vals)
    (k1 : w'.ownsRow N 55 1 v' (Ls.length + 1) (vals ++ [.slice none 0 0])) (k2 : w.grownBy w' v.ownBlock) (hN : N ≤ w.heap.size) : Opened w' N Ls [] v' := by
  refine ⟨vals, .slice none 0 0, w'.heap.size, k1, ⟨h2.1, fun i hi => (h2.2 i hi).kept k2 (not_block (by decide) h1 (h2.2 i hi))⟩, fun i hi j hj => ?_, World.ownsRow_nil _ _ _ _, Nat.le_trans hN k2.size, Nat.le_refl _⟩
  exact Nat.lt_of_lt_of_le ((h2.2 i hi).lt j hj).2 k2.size

/-- The last list has grown, and its header is stored. -/
theorem Opened.grow {w w' : World} {N M ob cap x : Nat} {Ls : List (List Nat)} {L : List Nat} {vals : List Value} {u u' : Value}
    (h1 : w.ownsRow N 55 1 (.slice (some ⟨ob, 0, none⟩) (Ls.length + 1) cap) (Ls.length + 1) (vals ++ [u])) (h2 : Owned w N Ls vals) (h3 : ∀ i, i < Ls.length → ∀ j, (vals.getD i (.bool false)).ownBlock = some j → j < M)
    (h4 : w.ownsRow M 3 1 u L.length (natsOf L)) (h5 : N ≤ M) (h6 : M ≤ w.heap.size) (k1 : w'.ownsRow M 3 1 u' (L.length + 1) (natsOf L ++ [.int .i64 (x : Int)])) (k2 : w.grownBy w' u.ownBlock) :
    Opened (w'.setCell ⟨ob, Ls.length, none⟩ u') N Ls (L ++ [x]) (.slice (some ⟨ob, 0, none⟩) (Ls.length + 1) cap) := by
  have e1 : w'.ownsRow N 55 1 (.slice (some ⟨ob, 0, none⟩) (Ls.length + 1) cap) (Ls.length + 1) (vals ++ [u]) := h1.kept k2 (not_block (by decide) h4 h1)
  obtain ⟨e2, e3⟩ := e1.stored Ls.length u'
  rw [show (vals ++ [u]).set Ls.length u' = vals ++ [u'] by rw [← h2.1]; simp] at e2
  have e4 : Owned w' N Ls vals := ⟨h2.1, fun i hi => (h2.2 i hi).kept k2 (by
    rcases hq : (vals.getD i (.bool false)).ownBlock with _ | j
    · exact .inl rfl
    · refine .inr (fun e => ?_)
      have a := h3 i hi j hq
      have b := (h4.lt j e.symm).1
      omega)⟩
  have e5 : w'.ownsRow M 3 1 u' (L ++ [x]).length (natsOf (L ++ [x])) := by rw [← natsOf_snoc, List.length_append, List.length_singleton]; exact k1
  refine ⟨vals, u', M, e2, ⟨e4.1, fun i hi => (e4.2 i hi).kept e3 ?_⟩, h3, e5.kept e3 ?_, h5, by simpa using Nat.le_trans h6 k2.size⟩
  · exact not_block (by decide) e1 (e4.2 i hi)
  · exact not_block (by decide) e1 e5

def intsL (L : List Nat) : List Int := L.map fun x : Nat => (x : Int)
/-- Closed lists of which none is empty, as the comparison takes them. -/
theorem Owned.lists {w : World} {N : Nat} {Ls : List (List Nat)} {vals : List Value} (h : Owned w N Ls vals) (hp : ∀ L, L ∈ Ls → 0 < L.length) : Lists w N (Ls.map intsL) vals := by
  refine ⟨by simp [h.1], fun i hi => ?_⟩
  rw [List.length_map] at hi
  have h2 := h.2 i hi
  have h3 : 0 < (Ls.getD i []).length := hp _ (by simp [List.getD, hi])
  have e1 : (Ls.map intsL).getD i [] = intsL (Ls.getD i []) := by simp [List.getD, hi]
  rw [e1]
  generalize Ls.getD i [] = L at *
  have hl : (intsL L).length = L.length := by simp [intsL]
  rcases h2.2 with ⟨h0, h1⟩ | ⟨g, cap, cur, h0, hb, hg, _⟩
  · omega
  · refine ⟨g, cap, by rw [hl]; exact h0, hb, fun j hj => ?_, cur, _, hg⟩
    rw [hl] at hj
    rw [h0] at h2
    rw [Nat.zero_add, h2.cellAt j (by omega), natsOf_get _ _ hj]
    simp [intsL, List.getD, hj]

end Go.Proofs.Ytmoplmjfnjgcaaa
namespace Go.Proofs.Ytmoplmjfnjgcaaa
open Go.RowKit
set_option linter.unusedSimpArgs false
set_option linter.unusedVariables false

/-- The least X, as the reference reckons it for the box i. -/
def leftN (B : Nat → Bx) (i : Nat) : Nat → Int
  | 0 => (B i).x
  | k + 1 => min (leftN B i k) (B k).x
theorem leftN_hull (B : Nat → Bx) (i k : Nat) : leftN B i (k + 1) = min (B i).x (hullX B (k + 1)).1 := by
  induction k with
  | zero => simp only [leftN, hullX]; omega
  | succ k ih =>
    rw [leftN, ih]
    have e : (hullX B (k + 1 + 1)).1 = min (hullX B (k + 1)).1 (B (k + 1)).x := rfl
    rw [e]; omega
theorem hull_least (B : Nat → Bx) (k j : Nat) (hj : j < k) : (hullX B k).1 ≤ (B j).x := by
  induction k with
  | zero => omega
  | succ k ih =>
    have e : (hullX B (k + 1)).1 = min (hullX B k).1 (B k).x := rfl
    rw [e]
    by_cases h : j = k
    · subst h; omega
    · have := ih (by omega); omega
theorem leftN_end (B : Nat → Bx) (i n : Nat) (hi : i < n) : leftN B i n = (hullX B n).1 := by
  obtain ⟨k, rfl⟩ : ∃ k, n = k + 1 := ⟨n - 1, by omega⟩
  rw [leftN_hull]
  have := hull_least B (k + 1) i hi
  omega
/-- A paragraph begins with box i, where the least X is L. -/
def bgB (B : Nat → Bx) (L indent gap : Int) (i : Nat) : Bool :=
  decide (i = 0) || (decide (indent ≤ (B i).x - L) || decide (gap < (B i).y - ((B (i - 1)).y + (B (i - 1)).h)))
theorem bgB_zero (B : Nat → Bx) (L indent gap : Int) : bgB B L indent gap 0 = true := by simp [bgB]

end Go.Proofs.Ytmoplmjfnjgcaaa
namespace Go.Proofs.Ytmoplmjfnjgcaaa
open Go.RowKit
set_option linter.unusedSimpArgs false
set_option linter.unusedVariables false

theorem begins_zero (n g o c lb hb ib gb : Nat) (B : Nat → Bx) (L indent gap : Int) (w : World) :
    Calls Try.prog 47 #[.int .i64 0, .pointer (some ⟨lb, 0, none⟩), .pointer (some ⟨hb, 0, none⟩), .pointer (some ⟨ib, 0, none⟩), .pointer (some ⟨gb, 0, none⟩)] w fun e w' => e = .returned (.bool true) ∧ ∃ q, w' = w.drewN q := by
  go_enter Try.func47, Try.ntmps47
  go_wp2_with fail
  go_quiet (fail)
  go_wp2
  go_ret
  exact ⟨rfl, _, rfl⟩

set_option maxHeartbeats 800000 in
set_option maxRecDepth 100000 in
theorem begins_next (k n g o c lb hb ib gb : Nat) (B : Nat → Bx) (L indent gap : Int) (w : World) (hk : k + 1 < n) (hn : n ≤ 60) (hI : (B (k + 1)).OK) (hJ : (B k).OK) (hL : -1048576 ≤ L ∧ L ≤ 1048576)
    (h0 : w.cell? ⟨lb, 0, none⟩ = some (.slice (some ⟨g, o, none⟩) n c)) (h1 : w.cell? ⟨hb, 0, none⟩ = some (.int .i64 L)) (h2 : w.cell? ⟨ib, 0, none⟩ = some (.int .i64 indent)) (h3 : w.cell? ⟨gb, 0, none⟩ = some (.int .i64 gap)) (hB : BoxesAt w g o n B) :
    Calls Try.prog 47 #[.int .i64 ((k : Int) + 1), .pointer (some ⟨lb, 0, none⟩), .pointer (some ⟨hb, 0, none⟩), .pointer (some ⟨ib, 0, none⟩), .pointer (some ⟨gb, 0, none⟩)] w fun e w' => e = .returned (.bool (bgB B L indent gap (k + 1))) ∧ ∃ q, w' = w.drewN q := by
  obtain ⟨⟨c0, c1⟩, c2, c3⟩ := hB (k + 1) hk
  obtain ⟨⟨d0, d1⟩, d2, d3⟩ := hB k (by omega)
  have hbg : bgB B L indent gap (k + 1) = (decide (indent ≤ (B (k + 1)).x - L) || decide (gap < (B (k + 1)).y - ((B k).y + (B k).h))) := by simp [bgB]
  rw [hbg]
  obtain ⟨⟨⟨x1, x2⟩, x3, x4⟩, ⟨x5, x6⟩, x7, x8⟩ := hI
  obtain ⟨⟨⟨y1, y2⟩, y3, y4⟩, ⟨y5, y6⟩, y7, y8⟩ := hJ
  obtain ⟨l1, l2⟩ := hL
  generalize B (k + 1) = b1 at *
  generalize B k = b2 at *
  obtain ⟨X, Y, P, Q⟩ := b1
  obtain ⟨U, V, R, S⟩ := b2
  simp only at *
  have i1 : (k : Int) + 1 < (n : Int) := by omega
  have i2 : (k : Int) < (n : Int) := by omega
  have i3 : (0 : Int) ≤ (k : Int) + 1 := by omega
  have i4 : ((k : Int) + 1).toNat = k + 1 := by omega
  have i5 : ((k : Int) + 1 == 0) = false := by simp; omega
  have i6 : IntKind.i64.wrap (k : Int) = (k : Int) := IntWalk.i64_in _ (by omega)
  have v1 : IntKind.i64.wrap (X - L) = X - L := IntWalk.i64_in _ (by omega)
  have v2 : IntKind.i64.wrap (V + S) = V + S := IntWalk.i64_in _ (by omega)
  have v3 : IntKind.i64.wrap (Y - (V + S)) = Y - (V + S) := IntWalk.i64_in _ (by omega)
  clear hB hbg
  by_cases t1 : indent ≤ X - L
  · go_enter Try.func47, Try.ntmps47
    go_wp2_with fail
    go_quiet (fail)
    go_wp2
    go_ret
    exact ⟨ret_bool (by simp [t1]), _, rfl⟩
  · go_enter Try.func47, Try.ntmps47
    go_wp2_with fail
    go_quiet (fail)
    go_wp2
    go_ret
    exact ⟨ret_bool (by simp [t1]), _, rfl⟩

end Go.Proofs.Ytmoplmjfnjgcaaa
namespace Go.Proofs.Ytmoplmjfnjgcaaa
open Go.RowKit
set_option linter.unusedSimpArgs false
set_option linter.unusedVariables false

theorem firstErr_of (B : Nat → Bx) (n : Nat) : firstErr B n = 0 ∨ firstErr B n = 3 := by
  induction n with
  | zero => exact .inl rfl
  | succ n ih =>
    rw [firstErr]
    by_cases h : firstErr B n = 0
    · rw [if_pos h]
      unfold Bx.err bxErr
      split <;> simp
    · rw [if_neg h]; exact ih
theorem listErr_of (B : Nat → Bx) (n : Nat) : listErr B n = 0 ∨ listErr B n = 3 ∨ listErr B n = 4 := by
  unfold listErr
  split
  · simp
  · rcases firstErr_of B n with h | h <;> simp [h]

set_option maxHeartbeats 1000000 in
set_option maxRecDepth 100000 in
theorem paragraphs_bad (n g o c : Nat) (B : Nat → Bx) (dx dy : Int) (w : World) (hn : n ≤ 100000) (hB : BoxesAt w g o n B) (h : listErr B n ≠ 0) :
    Calls Try.prog 23 #[.slice (some ⟨g, o, none⟩) n c, .int .i64 dx, .int .i64 dy] w fun e w' => e = .returned (.tuple #[.slice none 0 0, .int .i64 (listErr B n)]) ∧ Below w.heap.size w w' := by
  obtain ⟨w1, hw1⟩ : ∃ w1, w1 = ((w.alloc (.cells #[.slice (some ⟨g, o, none⟩) n c] 51)).alloc (.cells #[.int .i64 dx] 3)).alloc (.cells #[.int .i64 dy] 3) := ⟨_, rfl⟩
  have B1 : Below w.heap.size w w1 := by rw [hw1]; exact below_alloc (below_alloc (new_below _ _) _) _
  have HB := Lib.hid (hB.later B1)
  have H1 := Lib.hid B1
  have q0 : w1.cell? ⟨w.heap.size, 0, none⟩ = some (.slice (some ⟨g, o, none⟩) n c) := by rw [hw1]; go_simp
  have HP := Lib.hid (hullP_bad n g o c B w1 hn HB.out h)
  have hne := listErr_of B n
  obtain ⟨E, hE⟩ : ∃ E, E = listErr B n := ⟨_, rfl⟩
  rw [← hE] at h hne HP ⊢
  have t1 : (E != 0) = true := by simpa using h
  have t2 : (E != 9) = true := by simp; omega
  clear hB B1 hE h hne
  go_enter Try.func23, Try.ntmps23
  go_upto_region 1 with (fail)
  rw [← hw1]
  clear hw1
  go_wp2_with fail
  refine HP.out.mono ?_
  rintro e w2 ⟨rfl, hb2⟩
  have G := Lib.hid (below_step H1.out hb2)
  clear hb2 q0
  go_wp2_with fail
  go_ret2
  exact ⟨rfl, below_alloc G.out _⟩

set_option maxHeartbeats 1000000 in
set_option maxRecDepth 100000 in
theorem paragraphs_far (n g o c : Nat) (B : Nat → Bx) (dx dy : Int) (w : World) (hn1 : 1 ≤ n) (hn : n ≤ 100000) (hB : BoxesAt w g o n B) (hOK : ∀ i, i < n → (B i).OK) (h : listErr B n = 0) (hd : ¬ ((0 ≤ dx ∧ dx ≤ 1048576) ∧ (0 ≤ dy ∧ dy ≤ 1048576))) :
    Calls Try.prog 23 #[.slice (some ⟨g, o, none⟩) n c, .int .i64 dx, .int .i64 dy] w fun e w' => e = .returned (.tuple #[.slice none 0 0, .int .i64 3]) ∧ Below w.heap.size w w' := by
  obtain ⟨w1, hw1⟩ : ∃ w1, w1 = ((w.alloc (.cells #[.slice (some ⟨g, o, none⟩) n c] 51)).alloc (.cells #[.int .i64 dx] 3)).alloc (.cells #[.int .i64 dy] 3) := ⟨_, rfl⟩
  have B1 : Below w.heap.size w w1 := by rw [hw1]; exact below_alloc (below_alloc (new_below _ _) _) _
  have HB := Lib.hid (hB.later B1)
  have H1 := Lib.hid B1
  have q0 : w1.cell? ⟨w.heap.size, 0, none⟩ = some (.slice (some ⟨g, o, none⟩) n c) := by rw [hw1]; go_simp
  have Q1 := Lib.hid (show w1.cell? ⟨w.heap.size + 1, 0, none⟩ = some (.int .i64 dx) by rw [hw1]; go_simp)
  have Q2 := Lib.hid (show w1.cell? ⟨w.heap.size + 1 + 1, 0, none⟩ = some (.int .i64 dy) by rw [hw1]; go_simp)
  have HP := Lib.hid (hullP_ok n g o c B w1 hn1 hn HB.out hOK h)
  clear hB B1 h hOK
  by_cases h1 : 0 ≤ dx ∧ dx ≤ 1048576
  · have D1 := Lib.hid h1
    have D2 := Lib.hid (show ¬ (0 ≤ dy ∧ dy ≤ 1048576) from fun k => hd ⟨h1, k⟩)
    clear hd h1
    go_enter Try.func23, Try.ntmps23
    go_upto_region 1 with (fail)
    rw [← hw1]
    clear hw1
    go_wp2_with fail
    refine HP.out.mono ?_
    rintro e w2 ⟨rfl, hb2⟩
    go_upto_region 2 with (fail)
    obtain ⟨w3, hw3⟩ : ∃ w3, w3 = w2.alloc (.cells #[.int .i64 (hullX B n).1, .int .i64 (hullY B n).1, .int .i64 ((hullX B n).2 - (hullX B n).1), .int .i64 ((hullY B n).2 - (hullY B n).1)] 92) := ⟨_, rfl⟩
    have hb3 : Below w1.heap.size w1 w3 := by rw [hw3]; exact below_alloc hb2 _
    have G := Lib.hid (below_step H1.out hb3)
    have k1 := cell_later hb3 Q1.out
    have k2 := cell_later hb3 Q2.out
    rw [← hw3]
    clear hb2 hb3 hw3 q0
    go_wp2_with (first | (go_at_call 29; (with_reducible refine (outside_no dx 0 1048576 _ D1.out).mono ?_); rintro e w' ⟨rfl, rfl⟩) | (go_at_call 29; (with_reducible refine (outside_yes dy 0 1048576 _ D2.out).mono ?_); rintro e w' ⟨rfl, rfl⟩))
    go_ret2
    exact ⟨rfl, G.out⟩
  · have D1 := Lib.hid h1
    clear hd h1
    go_enter Try.func23, Try.ntmps23
    go_upto_region 1 with (fail)
    rw [← hw1]
    clear hw1
    go_wp2_with fail
    refine HP.out.mono ?_
    rintro e w2 ⟨rfl, hb2⟩
    go_upto_region 2 with (fail)
    obtain ⟨w3, hw3⟩ : ∃ w3, w3 = w2.alloc (.cells #[.int .i64 (hullX B n).1, .int .i64 (hullY B n).1, .int .i64 ((hullX B n).2 - (hullX B n).1), .int .i64 ((hullY B n).2 - (hullY B n).1)] 92) := ⟨_, rfl⟩
    have hb3 : Below w1.heap.size w1 w3 := by rw [hw3]; exact below_alloc hb2 _
    have G := Lib.hid (below_step H1.out hb3)
    have k1 := cell_later hb3 Q1.out
    have k2 := cell_later hb3 Q2.out
    rw [← hw3]
    clear hb2 hb3 hw3 q0
    go_wp2_with (first | (go_at_call 29; (with_reducible refine (outside_yes dx 0 1048576 _ D1.out).mono ?_); rintro e w' ⟨rfl, rfl⟩))
    go_ret2
    exact ⟨rfl, G.out⟩

/-- Ahead of number k. -/
def ParSt (bg : Nat → Bool) (N k : Nat) (v : Value) (w : World) : Prop := (k = 0 ∧ v = .slice none 0 0) ∨ (0 < k ∧ Opened w N (parP bg k).1 (parP bg k).2 v)
theorem ParSt.later {bg : Nat → Bool} {N k : Nat} {v : Value} {w w' : World} (h : ParSt bg N k v w) (hb : Below w.heap.size w w') : ParSt bg N k v w' := by
  rcases h with h | ⟨h1, h2⟩
  · exact .inl h
  · exact .inr ⟨h1, h2.later hb⟩
theorem par_begin {bg : Nat → Bool} {N k : Nat} {v : Value} {w : World} (h : ParSt bg N k v w) (h0 : bg 0 = true) (hb : bg k = true) : ∃ Ls, Closed w N Ls v ∧ parP bg (k + 1) = (Ls, [k]) ∧ Ls.length ≤ k := by
  rcases h with ⟨rfl, rfl⟩ | ⟨h1, h2⟩
  · exact ⟨[], Closed.nil _ _, by simp [parP, h0], Nat.le_refl _⟩
  · refine ⟨_, h2.closed, by rw [parP, if_pos hb, if_neg (by omega)], ?_⟩
    have := ((parP_count bg k h0).2.2.1 h1).1
    rw [List.length_append, List.length_singleton]; omega
theorem par_go {bg : Nat → Bool} {N k : Nat} {v : Value} {w : World} (h : ParSt bg N k v w) (h0 : bg 0 = true) (hb : bg k = false) : ∃ Ls L, Opened w N Ls L v ∧ parP bg (k + 1) = (Ls, L ++ [k]) ∧ Ls.length ≤ k ∧ L.length ≤ k := by
  rcases h with ⟨rfl, rfl⟩ | ⟨h1, h2⟩
  · rw [h0] at hb; cases hb
  · have := parP_count bg k h0
    exact ⟨_, _, h2, by rw [parP, if_neg (by simp [hb])], this.1, by omega⟩

end Go.Proofs.Ytmoplmjfnjgcaaa
