/-
  MixesMatch returns true for all arguments, and each argument reads afterwards as it read before. No conditions.
-/
import Derived.Test.YtcpgnfbjdokdcaaRows
import Derived.WalkKit
import Derived.WalkSpells
import Derived.WalkLawsBesides
import Derived.Lib.Hide
import Derived.Deep.RegionHeld3
import Derived.Shelf.Abstract
import Derived.Lib.MinMax
import Derived.Deep.QuietTactic
import Derived.BigQuiet
import Derived.Deep.CutRange
import Derived.Deep.DeepCutAuto
import Derived.Laws.EntriesVeiled
import Derived.StillTailTactics
import Derived.Deep.AppendLies
import Derived.Deep.DrawnRows
import Derived.Deep.RegionLaw
import Derived.ProofKit
import Derived.OpenShut
import Derived.ShutString
import Derived.ChangeOld
import Derived.Lib.SmallJoins
import Derived.Deep.Grids
import Derived.Test.YtcpgnfbjdokdcaaCMixes2
namespace Go.Proofs.Ytcpgnfbjdokdcaa
open Go.RowKit
set_option linter.unusedSimpArgs false
set_option linter.unusedVariables false

theorem paste_bad1 (a1 b1 : Int) (s1 : Option Addr) (n1 c1 : Nat) (a2 b2 : Int) (s2 : Option Addr) (n2 c2 : Nat) (x y : Int) (w : World) (h : pageErr a1 b1 n1 ≠ 0) :
    Calls Try.prog 53 #[.agg #[.int .i64 a1, .int .i64 b1, .slice s1 n1 c1], .agg #[.int .i64 a2, .int .i64 b2, .slice s2 n2 c2], .int .i64 x, .int .i64 y] w fun e w' => e = .returned (.tuple #[.agg #[.int .i64 0, .int .i64 0, .slice none 0 0], .int .i64 (pageErr a1 b1 n1)]) ∧ Below w.heap.size w w' := by
  have h' : (pageErr a1 b1 n1 != 0) = true := by simpa using h
  clear h
  go_enter Try.func53, Try.ntmps53
  go_wp2_with ((go_at_call 13; refine (checkBits_any _ _ _ _ _ _).mono ?_; rintro e w' ⟨rfl, rfl⟩))
  refine bodyPost_ret (v := .tuple #[.agg #[.int .i64 0, .int .i64 0, .slice none 0 0], .int .i64 (pageErr a1 b1 n1)]) (by simp [results, Try.results53, go_sem]) rfl ⟨rfl, below_alloc (below_alloc (below_alloc (new_below _ _) _) _) _⟩

theorem paste_bad2 (a1 b1 : Int) (s1 : Option Addr) (n1 c1 : Nat) (a2 b2 : Int) (s2 : Option Addr) (n2 c2 : Nat) (x y : Int) (w : World) (h1 : pageErr a1 b1 n1 = 0) (h : pageErr a2 b2 n2 ≠ 0) :
    Calls Try.prog 53 #[.agg #[.int .i64 a1, .int .i64 b1, .slice s1 n1 c1], .agg #[.int .i64 a2, .int .i64 b2, .slice s2 n2 c2], .int .i64 x, .int .i64 y] w fun e w' => e = .returned (.tuple #[.agg #[.int .i64 0, .int .i64 0, .slice none 0 0], .int .i64 (pageErr a2 b2 n2)]) ∧ Below w.heap.size w w' := by
  have h' : (pageErr a2 b2 n2 != 0) = true := by simpa using h
  clear h
  go_enter Try.func53, Try.ntmps53
  go_wp2_with ((go_at_call 13; refine (checkBits_any _ _ _ _ _ _).mono ?_; rintro e w' ⟨rfl, rfl⟩))
  refine bodyPost_ret (v := .tuple #[.agg #[.int .i64 0, .int .i64 0, .slice none 0 0], .int .i64 (pageErr a2 b2 n2)]) (by simp [results, Try.results53, go_sem]) rfl ⟨rfl, below_alloc (below_alloc (below_alloc (below_alloc (new_below _ _) _) _) _) _⟩

set_option maxHeartbeats 2000000 in
set_option maxRecDepth 100000 in
theorem paste_ok (W H Wc Hc n1 n2 g1 o1 c1 g2 o2 c2 : Nat) (x y : Int) (z1 z2 : Nat → Bool) (w : World) (he1 : sizeErr W H = 0) (he2 : sizeErr Wc Hc = 0) (hn1 : n1 = W * H) (hn2 : n2 = Wc * Hc)
    (hc1 : ∀ j, j < n1 → w.cell? ⟨g1, o1 + j, none⟩ = some (.bool (z1 j))) (hc2 : ∀ j, j < n2 → w.cell? ⟨g2, o2 + j, none⟩ = some (.bool (z2 j))) :
    Calls Try.prog 53 #[.agg #[.int .i64 W, .int .i64 H, .slice (some ⟨g1, o1, none⟩) n1 c1], .agg #[.int .i64 Wc, .int .i64 Hc, .slice (some ⟨g2, o2, none⟩) n2 c2], .int .i64 x, .int .i64 y] w fun e w' =>
      ∃ g c, e = .returned (.tuple #[.agg #[.int .i64 W, .int .i64 H, .slice (some ⟨g, 0, none⟩) n1 c], .int .i64 0]) ∧ w.heap.size ≤ g ∧ (∀ k, k < n1 → w'.cell? ⟨g, 0 + k, none⟩ = some (.bool (pasteAt W Wc Hc x y z1 z2 (k % W) (k / W)))) ∧ Below w.heap.size w w' := by
  obtain ⟨⟨a1, a2, a3, a4⟩, z0, z3⟩ := sizeErr_zero he1
  obtain ⟨⟨e1, e2, e3, e4⟩, z4, z5⟩ := sizeErr_zero he2
  have hN1 : n1 ≤ 1048576 := by rw [hn1]; rw [← Int.natCast_mul] at z3; omega
  have hN2 : n2 ≤ 1048576 := by rw [hn2]; rw [← Int.natCast_mul] at z5; omega
  have hp1 : pageErr W H n1 = 0 := by unfold pageErr; rw [if_pos he1, if_pos (by rw [hn1]; simp [Int.natCast_mul])]
  have hp2 : pageErr Wc Hc n2 = 0 := by unfold pageErr; rw [if_pos he2, if_pos (by rw [hn2]; simp [Int.natCast_mul])]
  have hn1' : 1 ≤ n1 := by rw [hn1]; exact Nat.mul_pos (by omega) (by omega)
  have HC1 := Lib.hid hc1
  have HC2 := Lib.hid hc2
  have HN1 := Lib.hid hn1
  have HN2 := Lib.hid hn2
  clear hc1 hc2 hn1 hn2 he1 he2 z0 z3 z4 z5
  go_enter Try.func53, Try.ntmps53
  go_wp2_with ((go_at_call 13; refine (checkBits_any _ _ _ _ _ _).mono ?_; rintro e w' ⟨rfl, rfl⟩))
  obtain ⟨w0, hw0⟩ : ∃ w0, w0 = ((((w.alloc (.cells #[.int .i64 W, .int .i64 H, .slice (some ⟨g1, o1, none⟩) n1 c1] 24)).alloc (.cells #[.int .i64 Wc, .int .i64 Hc, .slice (some ⟨g2, o2, none⟩) n2 c2] 24)).alloc (.cells #[.int .i64 0, .int .i64 0, .slice none 0 0] 24)).alloc (.cells #[.int .i64 W, .int .i64 H, .slice (some ⟨g1, o1, none⟩) n1 c1] 24)).alloc (.cells #[.int .i64 Wc, .int .i64 Hc, .slice (some ⟨g2, o2, none⟩) n2 c2] 24) := ⟨_, rfl⟩
  have B0 : Below w.heap.size w w0 := by rw [hw0]; exact below_alloc (below_alloc (below_alloc (below_alloc (new_below _ _) _) _) _) _
  have q0 : w0.cell? ⟨w.heap.size, 0, none⟩ = some (.int .i64 W) := by rw [hw0]; go_simp
  have q1 : w0.cell? ⟨w.heap.size, 1, none⟩ = some (.int .i64 H) := by rw [hw0]; go_simp
  have q2 : w0.cell? ⟨w.heap.size, 2, none⟩ = some (.slice (some ⟨g1, o1, none⟩) n1 c1) := by rw [hw0]; go_simp
  have q3 : w0.cell? ⟨w.heap.size + 1, 0, none⟩ = some (.int .i64 Wc) := by rw [hw0]; go_simp
  have q4 : w0.cell? ⟨w.heap.size + 1, 1, none⟩ = some (.int .i64 Hc) := by rw [hw0]; go_simp
  have q5 : w0.cell? ⟨w.heap.size + 1, 2, none⟩ = some (.slice (some ⟨g2, o2, none⟩) n2 c2) := by rw [hw0]; go_simp
  have qb : w0.heap[w.heap.size + 1 + 1]? = some (.cells #[.int .i64 0, .int .i64 0, .slice none 0 0] 24 (0, 0)) := by
    rw [hw0, Below.heap_alloc _ _ _ (by simp), Below.heap_alloc _ _ _ (by simp)]
    simpa using heap_alloc_new ((w.alloc (.cells #[.int .i64 W, .int .i64 H, .slice (some ⟨g1, o1, none⟩) n1 c1] 24)).alloc (.cells #[.int .i64 Wc, .int .i64 Hc, .slice (some ⟨g2, o2, none⟩) n2 c2] 24)) (.cells #[.int .i64 0, .int .i64 0, .slice none 0 0] 24)
  rw [← hw0]
  clear hw0
  have LQ := Lib.hid (Array.getElem?_eq_some_iff.1 qb).1
  refine (clone_any g1 o1 n1 c1 z1 w0 hn1' hN1 (fun j hj => cell_later B0 (HC1.out j hj))).mono ?_
  rintro e w1 ⟨v, rfl, hown, hb1⟩
  obtain ⟨gp, cp, rfl⟩ : ∃ g c, v = .slice (some ⟨g, 0, none⟩) n1 c := by
    rcases hown.2 with ⟨_, h0⟩ | ⟨g, c, cur, rfl, _⟩
    · omega
    · exact ⟨g, c, rfl⟩
  have hgp := Lib.hid (hown.lt gp rfl).1
  have B1 := Lib.hid (below_step B0 hb1)
  have Bq := Lib.hid hb1
  have HO := Lib.hid hown
  have k0 := cell_later hb1 q0
  have k1 := cell_later hb1 q1
  have k2 := cell_later hb1 q2
  have k3 := cell_later hb1 q3
  have k4 := cell_later hb1 q4
  have k5 := cell_later hb1 q5
  clear hb1 hown q0 q1 q2 q3 q4 q5
  go_wp2_with fail
  refine (overlap_any W Wc x w1 (by omega) (by omega)).mono ?_
  rintro e wx ⟨fx, tx, rfl, hox, rfl⟩
  go_wp2_with fail
  refine (overlap_any H Hc y w1 (by omega) (by omega)).mono ?_
  rintro e wy ⟨fy, ty, rfl, hoy, rfl⟩
  have hx1 := hox.1
  have hx2 := hox.2.1
  have hy1 := hoy.1
  have hy2 := hoy.2.1
  have OX := Lib.hid hox
  have OY := Lib.hid hoy
  clear hox hoy
  have hst := pasteList_start W H Wc Hc x y z1 z2 fx tx fy ty (by omega) OX.out OY.out
  rw [← HN1.out] at hst
  have HST := Lib.hid hst
  clear hst
  go_wp2_with fail
  go_loopw [17] (fun i wr => ∃ j : Nat, fy ≤ j ∧ j ≤ ty ∧ i = .int .i64 j ∧ wr.ownsRow w0.heap.size 4 1 (.slice (some ⟨gp, 0, none⟩) n1 cp) n1 (pasteList W n1 Wc Hc x y z1 z2 j fx) ∧ Below w0.heap.size w1 wr) (fun i _ => ty - (intOf i).toNat)
  case atStart => exact ⟨fy, Nat.le_refl _, hy1, rfl, by rw [HST.out]; exact HO.out, Below.refl _ _⟩
  case round =>
    obtain ⟨j, hj1, hj2, rfl, hownr, hbr⟩ := hrel
    have lq := LQ.out
    by_cases hltj : j < ty
    · obtain ⟨wo, rfl⟩ : ∃ wo : World, wo = wr := ⟨_, rfl⟩
      go_wp2_with fail
      go_loopw [18] (fun i wr => ∃ i' : Nat, fx ≤ i' ∧ i' ≤ tx ∧ i = .int .i64 i' ∧ wr.ownsRow w0.heap.size 4 1 (.slice (some ⟨gp, 0, none⟩) n1 cp) n1 (pasteList W n1 Wc Hc x y z1 z2 j i') ∧ Below w0.heap.size w1 wr) (fun i _ => tx - (intOf i).toNat)
      case atStart => exact ⟨fx, Nat.le_refl _, hx1, rfl, hownr, hbr⟩
      case round =>
        obtain ⟨i, hi1, hi2, rfl, howni, hbi⟩ := hrel
        clear hownr hbr
        have f0 := (hbi.cell (p := ⟨w.heap.size, 0, none⟩) (by simp; omega)).trans k0
        have f3 := (hbi.cell (p := ⟨w.heap.size + 1, 0, none⟩) (by simp; omega)).trans k3
        have f5 := (hbi.cell (p := ⟨w.heap.size + 1, 2, none⟩) (by simp; omega)).trans k5
        by_cases hlti : i < tx
        · obtain ⟨ia, ib, ic⟩ := OX.out.2.2.1 i hi1 hlti
          obtain ⟨ja, jb, jc⟩ := OY.out.2.2.1 j hj1 hltj
          obtain ⟨a, ha⟩ := Int.eq_ofNat_of_zero_le ib
          obtain ⟨b, hb⟩ := Int.eq_ofNat_of_zero_le jb
          have haW : a < W := by omega
          have hbH : b < H := by omega
          have hfit := row_fits hbH (show a + 1 ≤ W by omega)
          have hfit2 := row_fits ja (show i + 1 ≤ Wc by omega)
          rw [← HN1.out] at hfit
          rw [← HN2.out] at hfit2
          have hcw := HC2.out (j * Wc + i) (by omega)
          have hcl := World.block_lt_of_cell? _ _ hcw
          simp only at hcl
          have hcc : wr.cell? ⟨g2, o2 + (j * Wc + i), none⟩ = some (.bool (z2 (j * Wc + i))) := (hbi.cell (p := ⟨g2, o2 + (j * Wc + i), none⟩) (by have := B0.size; simp; omega)).trans (cell_later B1.out hcw)
          have hstep := pasteList_step W H Wc Hc x y z1 z2 j i a b (by omega) (by omega) (by omega) haW hbH ia ja
          rw [← HN1.out] at hstep
          have ht := howni.cellAt (b * W + a) (by omega)
          rw [List.getElem?_eq_getElem (by rw [howni.1]; omega)] at ht
          have hfz := howni.frozenAt (b * W + a)
          obtain ⟨t, hte⟩ : ∃ t, t = (pasteList W n1 Wc Hc x y z1 z2 j i)[b * W + a]'(by rw [howni.1]; omega) := ⟨_, rfl⟩
          rw [← hte] at ht
          obtain ⟨K, hK⟩ : ∃ K, K = b * W + a := ⟨_, rfl⟩
          rw [← hK] at ht hfz hstep
          have hKn : K < n1 := by omega
          have x0 : (0 : Int) ≤ (j : Int) * (Wc : Int) := Int.mul_nonneg (by omega) (by omega)
          have x1 : (j : Int) * (Wc : Int) + (i : Int) < (n2 : Int) := by rw [← Int.natCast_mul]; omega
          have x2 : (0 : Int) ≤ (b : Int) * (W : Int) := Int.mul_nonneg (by omega) (by omega)
          have x3 : (b : Int) * (W : Int) ≤ 16000000 := by
            have := Nat.mul_le_mul (show b ≤ 4000 by omega) (show W ≤ 4000 by omega)
            rw [← Int.natCast_mul]; omega
          have eb : y + (j : Int) = (b : Int) := by omega
          have eK : (b : Int) * (W : Int) + x + (i : Int) = (K : Int) := by
            have : ((b * W + a : Nat) : Int) = (b : Int) * (W : Int) + (a : Int) := by rw [Int.natCast_add, Int.natCast_mul]
            omega
          have xx : - 4000 ≤ x ∧ x ≤ 4000 := by omega
          have yy : - 4000 ≤ y ∧ y ≤ 4000 := by omega
          obtain ⟨xx0, xx1⟩ := xx
          obtain ⟨yy0, yy1⟩ := yy
          have HS := Lib.hid hstep
          have HOI := Lib.hid howni
          have HBI := Lib.hid hbi
          clear hte hcw hstep howni hbi hfit hfit2 ib jb ha hb hK
          by_cases hz : z2 (j * Wc + i) = true
          · have HZ := Lib.hid hz
            rw [hz] at hcc
            clear hz
            go_wp2_with fail
            go_roundw
            case rel =>
              refine ⟨i + 1, by omega, by omega, by go_num, ?_, HBI.out.setCell hgp.out _⟩
              rw [HS.out, if_pos HZ.out]
              exact (HOI.out.stored K (.bool true)).1
            case measure => simp [intOf]; omega
          · have hz' : z2 (j * Wc + i) = false := by simpa using hz
            have HZ := Lib.hid hz
            rw [hz'] at hcc
            clear hz hz'
            go_wp2_with fail
            go_roundw
            case rel => exact ⟨i + 1, by omega, by omega, by go_num, by rw [HS.out, if_neg HZ.out]; exact HOI.out, HBI.out⟩
            case measure => simp [intOf]; omega
        · have hie := Lib.hid (show i = tx by omega)
          have hrow := pasteList_row W H Wc Hc x y z1 z2 fx tx j (by omega) OX.out
          rw [← HN1.out] at hrow
          have HR := Lib.hid hrow
          clear hrow
          go_wp2_with fail
          go_roundw
          case rel => exact ⟨j + 1, by omega, by omega, by go_num, by rw [← HR.out, ← hie.out]; exact howni, hbi⟩
          case measure => simp [intOf]; omega
    · have hje := Lib.hid (show j = ty by omega)
      have f0 := (hbr.cell (p := ⟨w.heap.size, 0, none⟩) (by simp; omega)).trans k0
      have f1 := (hbr.cell (p := ⟨w.heap.size, 1, none⟩) (by simp; omega)).trans k1
      have hblk : wr.heap[w.heap.size + 1 + 1]? = some (.cells #[.int .i64 0, .int .i64 0, .slice none 0 0] 24 (0, 0)) := (hbr.block _ lq).trans (below_block Bq.out qb)
      obtain ⟨j0, j1, j2, r0, r1, r2⟩ := block3 hblk
      have HBR := Lib.hid hbr
      have HOR := Lib.hid hownr
      clear hbr hownr hblk
      go_wp2_with fail
      refine bodyPost_ret (v := .tuple #[.agg #[.int .i64 W, .int .i64 H, .slice (some ⟨gp, 0, none⟩) n1 cp], .int .i64 0]) (by simp [results, Try.results53, go_sem, j0, j1, j2]) rfl ⟨gp, cp, rfl, ?_, fun k hk => ?_, ?_⟩
      · have := hgp.out; have := B0.size; omega
      · refine cell_far3 (show gp ≠ w.heap.size + 1 + 1 by have := hgp.out; omega) ?_
        rw [Nat.zero_add, HOR.out.cellAt k (by omega), hje.out]
        have he := pasteList_end W H Wc Hc x y z1 z2 fx fy ty (by omega) OY.out k (by rw [← HN1.out]; exact hk)
        simp [pasteList, List.getElem?_range hk, he]
      · exact below_far3 ((B1.out).trans (HBR.out.mono (by have := B0.size; omega))) (by omega)

end Go.Proofs.Ytcpgnfbjdokdcaa
namespace Go.Proofs.Ytcpgnfbjdokdcaa
open Go.RowKit
set_option linter.unusedSimpArgs false
set_option linter.unusedVariables false

set_option maxHeartbeats 400000 in
set_option maxRecDepth 100000 in
theorem pasteOf_any (W H Wc Hc g1 o1 c1 g2 o2 c2 : Nat) (x y : Int) (z1 z2 : Nat → Bool) (w : World) (hW : 1 ≤ W ∧ W ≤ 4000) (hH : 1 ≤ H ∧ H ≤ 4000) (hWc : 1 ≤ Wc ∧ Wc ≤ 4000) (hHc : 1 ≤ Hc ∧ Hc ≤ 4000) (hN : W * H ≤ 1048576)
    (hz1 : ∀ k, k < W * H → w.cell? ⟨g1, o1 + k, none⟩ = some (.bool (z1 k))) (hz2 : ∀ k, k < Wc * Hc → w.cell? ⟨g2, o2 + k, none⟩ = some (.bool (z2 k))) :
    Calls Try.prog 55 #[.agg #[.int .i64 W, .int .i64 H, .slice (some ⟨g1, o1, none⟩) (W * H) c1], .agg #[.int .i64 Wc, .int .i64 Hc, .slice (some ⟨g2, o2, none⟩) (Wc * Hc) c2], .int .i64 x, .int .i64 y] w fun e w' =>
      ∃ v, e = .returned (.agg #[.int .i64 W, .int .i64 H, v]) ∧ w'.ownsRow w.heap.size 4 1 v (W * H) ((places W (pasteAt W Wc Hc x y z1 z2) (W * H)).map Value.bool) ∧ Below w.heap.size w w' := by
  have hmf : ∀ (fn : Fn) (first cap : Array Value) (w : World), (Instr.makeFunc fn first cap).run Try.prog w = .ok (.func fn first cap) w := fun _ _ _ _ => rfl
  have H1 := Lib.hid hz1
  have H2 := Lib.hid hz2
  clear hz1 hz2
  go_enter Try.func55, Try.ntmps55
  go_wp2_with fail
  obtain ⟨w1, hw1⟩ : ∃ w1, w1 = ((((w.alloc (.cells #[.int .i64 W, .int .i64 H, .slice (some ⟨g1, o1, none⟩) (W * H) c1] 24)).alloc (.cells #[.int .i64 Wc, .int .i64 Hc, .slice (some ⟨g2, o2, none⟩) (Wc * Hc) c2] 24)).alloc (.cells #[.int .i64 x] 3)).alloc (.cells #[.int .i64 y] 3)).alloc (.cells #[.int .i64 0, .int .i64 0, .slice none 0 0] 24) := ⟨_, rfl⟩
  have B1 : Below w.heap.size w w1 := by rw [hw1]; exact below_alloc (below_alloc (below_alloc (below_alloc (new_below _ _) _) _) _) _
  have q0 : w1.cell? ⟨w.heap.size, 0, none⟩ = some (.int .i64 W) := by rw [hw1]; go_simp
  have q1 : w1.cell? ⟨w.heap.size, 1, none⟩ = some (.int .i64 H) := by rw [hw1]; go_simp
  have q2 : w1.cell? ⟨w.heap.size, 2, none⟩ = some (.slice (some ⟨g1, o1, none⟩) (W * H) c1) := by rw [hw1]; go_simp
  have q3 : w1.cell? ⟨w.heap.size + 1, 0, none⟩ = some (.int .i64 Wc) := by rw [hw1]; go_simp
  have q4 : w1.cell? ⟨w.heap.size + 1, 1, none⟩ = some (.int .i64 Hc) := by rw [hw1]; go_simp
  have q5 : w1.cell? ⟨w.heap.size + 1, 2, none⟩ = some (.slice (some ⟨g2, o2, none⟩) (Wc * Hc) c2) := by rw [hw1]; go_simp
  have q6 : w1.cell? ⟨w.heap.size + 1 + 1, 0, none⟩ = some (.int .i64 x) := by rw [hw1]; go_simp
  have q7 : w1.cell? ⟨w.heap.size + 1 + 1 + 1, 0, none⟩ = some (.int .i64 y) := by rw [hw1]; go_simp
  have qb : w1.heap[w.heap.size + 1 + 1 + 1 + 1]? = some (.cells #[.int .i64 0, .int .i64 0, .slice none 0 0] 24 (0, 0)) := by
    rw [hw1]
    simpa using heap_alloc_new ((((w.alloc (.cells #[.int .i64 W, .int .i64 H, .slice (some ⟨g1, o1, none⟩) (W * H) c1] 24)).alloc (.cells #[.int .i64 Wc, .int .i64 Hc, .slice (some ⟨g2, o2, none⟩) (Wc * Hc) c2] 24)).alloc (.cells #[.int .i64 x] 3)).alloc (.cells #[.int .i64 y] 3)) (.cells #[.int .i64 0, .int .i64 0, .slice none 0 0] 24)
  rw [← hw1]
  clear hw1
  have lt3 := (Array.getElem?_eq_some_iff.1 qb).1
  refine (made_any W H 115 _ (pasteAt W Wc Hc x y z1 z2) w1 hW.1 (by omega) (by omega) (by omega) (Go.Proofs.enters_of Try.func115 (by kernel_rfl) rfl) ?_).mono ?_
  · intro i j wx hi hj hbx
    have hb := below_step B1 hbx
    exact pasteOf1_any W H Wc Hc g1 o1 c1 g2 o2 c2 i j _ _ _ _ x y z1 z2 wx hW hH hWc hHc hi hj (cell_later hbx q6) (cell_later hbx q7) (cell_later hbx q0) (cell_later hbx q1) (cell_later hbx q2) (cell_later hbx q3) (cell_later hbx q4) (cell_later hbx q5) (fun k hk => cell_later hb (H1.out k hk)) (fun k hk => cell_later hb (H2.out k hk))
  · rintro e w5 ⟨v, rfl, hown, hb5⟩
    obtain ⟨j0, j1, j2, r0, r1, r2⟩ := block3 (below_block hb5 qb)
    obtain ⟨va, vn, vc, rfl⟩ := owns_shape hown
    have F := Lib.hid hown
    have G := Lib.hid hb5
    have L := Lib.hid lt3
    clear hown hb5 lt3 q0 q1 q2 q3 q4 q5 q6 q7
    go_wp2_with fail
    refine bodyPost_ret (v := .agg #[.int .i64 W, .int .i64 H, .slice va vn vc]) (by simp [results, Try.results55, go_sem, j0, j1, j2]) rfl ⟨_, rfl, owns_far3 F.out L.out B1.size, below_far3 (below_step B1 G.out) (by omega)⟩

set_option maxRecDepth 100000 in
theorem mixes2_any (W H Wc Hc g1 o1 c1 g2 o2 c2 bb cb xb yb : Nat) (x y : Int) (z1 z2 : Nat → Bool) (w : World) (hW : 1 ≤ W ∧ W ≤ 4000) (hH : 1 ≤ H ∧ H ≤ 4000) (hWc : 1 ≤ Wc ∧ Wc ≤ 4000) (hHc : 1 ≤ Hc ∧ Hc ≤ 4000) (hN : W * H ≤ 1048576)
    (kx : w.cell? ⟨xb, 0, none⟩ = some (.int .i64 x)) (ky : w.cell? ⟨yb, 0, none⟩ = some (.int .i64 y))
    (kb0 : w.cell? ⟨bb, 0, none⟩ = some (.int .i64 W)) (kb1 : w.cell? ⟨bb, 1, none⟩ = some (.int .i64 H)) (kb2 : w.cell? ⟨bb, 2, none⟩ = some (.slice (some ⟨g1, o1, none⟩) (W * H) c1))
    (kc0 : w.cell? ⟨cb, 0, none⟩ = some (.int .i64 Wc)) (kc1 : w.cell? ⟨cb, 1, none⟩ = some (.int .i64 Hc)) (kc2 : w.cell? ⟨cb, 2, none⟩ = some (.slice (some ⟨g2, o2, none⟩) (Wc * Hc) c2))
    (hz1 : ∀ k, k < W * H → w.cell? ⟨g1, o1 + k, none⟩ = some (.bool (z1 k))) (hz2 : ∀ k, k < Wc * Hc → w.cell? ⟨g2, o2 + k, none⟩ = some (.bool (z2 k))) :
    Calls Try.prog 54 #[.pointer (some ⟨bb, 0, none⟩), .pointer (some ⟨cb, 0, none⟩), .pointer (some ⟨xb, 0, none⟩), .pointer (some ⟨yb, 0, none⟩)] w fun e w' =>
      ∃ v, e = .returned v ∧ PageB w' v W H (W * H) (fun k => pasteAt W Wc Hc x y z1 z2 (k % W) (k / W)) ∧ Below w.heap.size w w' := by
  have lb := World.block_lt_of_cell? _ _ kb0
  have lc := World.block_lt_of_cell? _ _ kc0
  have lx := World.block_lt_of_cell? _ _ kx
  have ly := World.block_lt_of_cell? _ _ ky
  simp only at lb lc lx ly
  obtain ⟨w1, hw1⟩ : ∃ w1, w1 = w.alloc (.cells #[.int .i64 0, .int .i64 0, .slice none 0 0] 24) := ⟨_, rfl⟩
  have B1 : Below w.heap.size w w1 := by rw [hw1]; exact new_below _ _
  have qb : w1.heap[w.heap.size]? = some (.cells #[.int .i64 0, .int .i64 0, .slice none 0 0] 24 (0, 0)) := by rw [hw1]; exact heap_alloc_new _ _
  have HK := Lib.hid (pasteOf_any W H Wc Hc g1 o1 c1 g2 o2 c2 x y z1 z2 w1 hW hH hWc hHc hN (fun k hk => cell_later B1 (hz1 k hk)) (fun k hk => cell_later B1 (hz2 k hk)))
  have HW := Lib.hid hw1
  have L := Lib.hid (Array.getElem?_eq_some_iff.1 qb).1
  clear hw1 hz1 hz2
  go_enter Try.func54, Try.ntmps54
  go_wp2_with fail
  rw [← HW.out]
  refine HK.out.mono ?_
  rintro e w5 ⟨v, rfl, hown, hb5⟩
  obtain ⟨j0, j1, j2, r0, r1, r2⟩ := block3 (below_block hb5 qb)
  obtain ⟨g', c', rfl, hgb, hz⟩ := owns_pageB hown (Nat.mul_pos hW.1 hH.1)
  have ZC := Lib.hid hz
  have G := Lib.hid hb5
  clear hown hb5 hz qb kx ky kb0 kb1 kb2 kc0 kc1 kc2
  go_wp2_with fail
  refine bodyPost_ret (v := .agg #[.int .i64 W, .int .i64 H, .slice (some ⟨g', 0, none⟩) (W * H) c']) (by simp [results, Try.results54, go_sem, j0, j1, j2]) rfl ⟨_, rfl, ⟨g', 0, c', rfl, fun j hj => ?_⟩, below_far3 (below_step B1 G.out) (Nat.le_refl _)⟩
  exact cell_far3 (show g' ≠ w.heap.size by have := L.out; omega) (ZC.out j hj)

end Go.Proofs.Ytcpgnfbjdokdcaa
namespace Go.Proofs.Ytcpgnfbjdokdcaa
open Go.RowKit
set_option linter.unusedSimpArgs false
set_option linter.unusedVariables false

theorem small_any (a b : Int) (w : World) (h : sizeErr a b = 0) : Calls Try.prog 32 #[.int .i64 a, .int .i64 b] w fun e w' => ∃ q, e = .returned (.bool q) ∧ w = w' := by
  obtain ⟨_, z0, z1⟩ := sizeErr_zero h
  have hw : wrap64 (a * b) = a * b := by unfold wrap64; omega
  clear h
  by_cases h1 : a ≤ 200
  · by_cases h2 : b ≤ 200
    · go_enter Try.func32, Try.ntmps32
      go_wp2_with ((go_at_call 47; refine (in_yes _ _ _ _ (by omega)).mono ?_; rintro e w' ⟨rfl, rfl⟩))
      go_ret
      exact ⟨_, rfl, rfl⟩
    · go_enter Try.func32, Try.ntmps32
      go_wp2_with (first | (go_at_call 47; refine (in_yes _ _ _ _ (by omega)).mono ?_; rintro e w' ⟨rfl, rfl⟩) | (go_at_call 47; refine (in_no _ _ _ _ (by omega)).mono ?_; rintro e w' ⟨rfl, rfl⟩))
      go_ret
      exact ⟨_, rfl, rfl⟩
  · go_enter Try.func32, Try.ntmps32
    go_wp2_with (first | (go_at_call 47; refine (in_no _ _ _ _ (by omega)).mono ?_; rintro e w' ⟨rfl, rfl⟩))
    go_ret
    exact ⟨_, rfl, rfl⟩

/-- What a halved page is, in memory: nothing with an error; else the means. -/
def HalveIs (a b : Int) (n : Nat) (z : Nat → Int) (B : Nat) (w : World) (i j : Int) (sl : Option Addr) (n' c' : Nat) : Prop :=
  (pageErr a b n ≠ 0 ∧ i = 0 ∧ j = 0 ∧ sl = none ∧ n' = 0 ∧ c' = 0) ∨
  (pageErr a b n = 0 ∧ i = (((a.toNat + 1) / 2 : Nat) : Int) ∧ j = (((b.toNat + 1) / 2 : Nat) : Int) ∧ n' = (a.toNat + 1) / 2 * ((b.toNat + 1) / 2) ∧ ∃ g, B ≤ g ∧ sl = some ⟨g, 0, none⟩ ∧ ∀ k, k < n' → w.cell? ⟨g, 0 + k, none⟩ = some (.int .u8 (mean4 z a.toNat b.toNat (k % ((a.toNat + 1) / 2)) (k / ((a.toNat + 1) / 2)))))

theorem HalveIs.later {a b : Int} {n : Nat} {z : Nat → Int} {B : Nat} {w w' : World} {i j : Int} {sl : Option Addr} {n' c' : Nat} (h : HalveIs a b n z B w i j sl n' c') (hb : Below w.heap.size w w') : HalveIs a b n z B w' i j sl n' c' := by
  rcases h with h | ⟨h1, h2, h3, h4, g, h5, h6, h7⟩
  · exact .inl h
  · exact .inr ⟨h1, h2, h3, h4, g, h5, h6, fun k hk => cell_later hb (h7 k hk)⟩

theorem halve_any (a b : Int) (s : Option Addr) (n c : Nat) (zs : List Int) (w : World) (hs : IsBytes w s n c zs) :
    Calls Try.prog 50 #[.agg #[.int .i64 a, .int .i64 b, .slice s n c]] w fun e w' =>
      ∃ i j sl n' c', e = .returned (.tuple #[.agg #[.int .i64 i, .int .i64 j, .slice sl n' c'], .int .i64 (pageErr a b n)]) ∧ HalveIs a b n (fun j => zs.getD j 0) w.heap.size w' i j sl n' c' ∧ Below w.heap.size w w' := by
  by_cases h : pageErr a b n = 0
  · obtain ⟨W, H, rfl, rfl, hn, w1, w2, h1, h2, hN, he⟩ := page_nat h
    obtain ⟨g, o, rfl, hc, hr⟩ := isBytes_cells hs (by rw [hn]; exact Nat.mul_pos w1 h1)
    subst hn
    refine (halve_ok W H _ _ g o c (fun j => zs.getD j 0) w he rfl rfl hr hc).mono ?_
    rintro e w' ⟨v, rfl, hown, hbel⟩
    obtain ⟨g', c', rfl, hg', hz⟩ := owns_pageY hown (Nat.mul_pos (by omega) (by omega))
    exact ⟨_, _, _, _, _, by rw [h], .inr ⟨h, by simp, by simp, by simp, g', hg', rfl, by simpa using hz⟩, hbel⟩
  · refine (halve_badPage a b s n c w h).mono ?_
    rintro e w' ⟨rfl, hbel⟩
    exact ⟨0, 0, none, 0, 0, rfl, .inl ⟨h, rfl, rfl, rfl, rfl, rfl⟩, hbel⟩

/-- The page that is made for comparison has what was halved. -/
theorem made_halve (W H : Nat) (w2 h2 i j : Int) (sl s : Option Addr) (n' c' n c gb B : Nat) (zs : List Int) (w : World) (hI : HalveIs W H n (fun j => zs.getD j 0) B w i j sl n' c') (hE : pageErr W H n = 0) (hs : IsBytes w s n c zs)
    (hw2 : w2 = ((W : Int) + 1) / 2) (hh2 : h2 = ((H : Int) + 1) / 2)
    (c0 : w.cell? ⟨gb, 0, none⟩ = some (.int .i64 W)) (c1 : w.cell? ⟨gb, 1, none⟩ = some (.int .i64 H)) (c2 : w.cell? ⟨gb, 2, none⟩ = some (.slice s n c)) :
    i = w2 ∧ j = h2 ∧ n' ≤ 100000000 ∧ ∃ (g' : Nat) (zc : Nat → Int), sl = some ⟨g', 0, none⟩ ∧ (∀ k, k < n' → w.cell? ⟨g', 0 + k, none⟩ = some (.int .u8 (zc k))) ∧
    Calls Try.prog 30 #[.int .i64 w2, .int .i64 h2, .func (.func 51) #[] #[.pointer (some ⟨gb, 0, none⟩)]] w fun e w' =>
      ∃ g2 c2, e = .returned (.agg #[.int .i64 w2, .int .i64 h2, .slice (some ⟨g2, 0, none⟩) n' c2]) ∧ (∀ k, k < n' → w'.cell? ⟨g2, 0 + k, none⟩ = some (.int .u8 (zc k))) ∧ Below w.heap.size w w' := by
  rcases hI with ⟨hE', _⟩ | ⟨_, hi, hj, hn', g', _, rfl, hz⟩
  · exact absurd hE hE'
  · obtain ⟨W', H', eW, eH, hn, w1, w2', h1, h2', hN, he⟩ := page_nat hE
    obtain rfl : W = W' := by omega
    obtain rfl : H = H' := by omega
    obtain ⟨g, o, rfl, hc, hr⟩ := isBytes_cells hs (by rw [hn]; exact Nat.mul_pos w1 h1)
    simp only [Int.toNat_natCast] at hn' hz hi hj
    obtain ⟨p, hp⟩ : ∃ p, p = (W + 1) / 2 := ⟨_, rfl⟩
    obtain ⟨q, hq⟩ : ∃ q, q = (H + 1) / 2 := ⟨_, rfl⟩
    rw [← hp] at hn' hz hi
    rw [← hq] at hn' hj
    obtain rfl : w2 = (p : Int) := by omega
    obtain rfl : h2 = (q : Int) := by omega
    have hpq := Nat.mul_le_mul (show p ≤ W by omega) (show q ≤ H by omega)
    subst hn
    refine ⟨hi, hj, by omega, g', _, rfl, hz, ?_⟩
    refine (madeGray_any p q 51 _ (mean4 (fun j => zs.getD j 0) W H) w (by omega) (by omega) (by omega) (by omega) (Go.Proofs.enters_of Try.func51 (by kernel_rfl) rfl) ?_).mono ?_
    · intro k l wx hk hl hbx
      refine (mixes1_any W H k l gb g o c (fun j => zs.getD j 0) wx w2' h2' hN (by omega) (by omega) hr (cell_later hbx c0) (cell_later hbx c1) (cell_later hbx c2) (fun j hj => cell_later hbx (hc j hj))).mono ?_
      rintro e wy ⟨rfl, rfl⟩
      exact ⟨rfl, Below.refl _ _⟩
    · rintro e w5 ⟨v, rfl, hown, hb5⟩
      obtain ⟨g2, c2, rfl, _, hz2⟩ := owns_pageY hown (Nat.mul_pos (by omega) (by omega))
      rw [hn']
      exact ⟨g2, c2, rfl, fun k hk => by rw [hz2 k hk], hb5⟩

/-- The error of pasting. -/
def pasteErr (a1 b1 : Int) (n1 : Nat) (a2 b2 : Int) (n2 : Nat) : Int := orI (pageErr a1 b1 n1) (pageErr a2 b2 n2)

theorem pasteErr_zero {a1 b1 : Int} {n1 : Nat} {a2 b2 : Int} {n2 : Nat} (h : pasteErr a1 b1 n1 a2 b2 n2 = 0) : pageErr a1 b1 n1 = 0 ∧ pageErr a2 b2 n2 = 0 := by
  unfold pasteErr orI at h
  by_cases h1 : pageErr a1 b1 n1 = 0
  · rw [if_pos h1] at h; exact ⟨h1, h⟩
  · rw [if_neg h1] at h; exact absurd h h1

/-- What a pasted page is, in memory. -/
def PasteIs (a1 b1 : Int) (n1 : Nat) (a2 b2 : Int) (n2 : Nat) (x y : Int) (z1 z2 : Nat → Bool) (B : Nat) (w : World) (i j : Int) (sl : Option Addr) (n' c' : Nat) : Prop :=
  (pasteErr a1 b1 n1 a2 b2 n2 ≠ 0 ∧ i = 0 ∧ j = 0 ∧ sl = none ∧ n' = 0 ∧ c' = 0) ∨
  (pasteErr a1 b1 n1 a2 b2 n2 = 0 ∧ i = a1 ∧ j = b1 ∧ n' = n1 ∧ ∃ g, B ≤ g ∧ sl = some ⟨g, 0, none⟩ ∧ ∀ k, k < n' → w.cell? ⟨g, 0 + k, none⟩ = some (.bool (pasteAt a1.toNat a2.toNat b2.toNat x y z1 z2 (k % a1.toNat) (k / a1.toNat))))

theorem PasteIs.later {a1 b1 : Int} {n1 : Nat} {a2 b2 : Int} {n2 : Nat} {x y : Int} {z1 z2 : Nat → Bool} {B : Nat} {w w' : World} {i j : Int} {sl : Option Addr} {n' c' : Nat} (h : PasteIs a1 b1 n1 a2 b2 n2 x y z1 z2 B w i j sl n' c') (hb : Below w.heap.size w w') : PasteIs a1 b1 n1 a2 b2 n2 x y z1 z2 B w' i j sl n' c' := by
  rcases h with h | ⟨h1, h2, h3, h4, g, h5, h6, h7⟩
  · exact .inl h
  · exact .inr ⟨h1, h2, h3, h4, g, h5, h6, fun k hk => cell_later hb (h7 k hk)⟩

theorem paste_any (a1 b1 : Int) (s1 : Option Addr) (n1 c1 : Nat) (a2 b2 : Int) (s2 : Option Addr) (n2 c2 : Nat) (x y : Int) (z1 z2 : Nat → Bool) (w : World) (hs1 : IsBools w s1 n1 c1 z1) (hs2 : IsBools w s2 n2 c2 z2) :
    Calls Try.prog 53 #[.agg #[.int .i64 a1, .int .i64 b1, .slice s1 n1 c1], .agg #[.int .i64 a2, .int .i64 b2, .slice s2 n2 c2], .int .i64 x, .int .i64 y] w fun e w' =>
      ∃ i j sl n' c', e = .returned (.tuple #[.agg #[.int .i64 i, .int .i64 j, .slice sl n' c'], .int .i64 (pasteErr a1 b1 n1 a2 b2 n2)]) ∧ PasteIs a1 b1 n1 a2 b2 n2 x y z1 z2 w.heap.size w' i j sl n' c' ∧ Below w.heap.size w w' := by
  by_cases h : pageErr a1 b1 n1 = 0
  · by_cases h' : pageErr a2 b2 n2 = 0
    · have hE : pasteErr a1 b1 n1 a2 b2 n2 = 0 := by unfold pasteErr orI; rw [if_pos h, h']
      obtain ⟨W, H, rfl, rfl, hn, w1, w2, h1, h2, hN, he⟩ := page_nat h
      obtain ⟨Wc, Hc, rfl, rfl, hn', v1, v2, k1, k2, hN', he'⟩ := page_nat h'
      obtain ⟨g, o, rfl, hc⟩ := isBools_cells hs1 (by rw [hn]; exact Nat.mul_pos w1 h1)
      obtain ⟨g', o', rfl, hc'⟩ := isBools_cells hs2 (by rw [hn']; exact Nat.mul_pos v1 k1)
      refine (paste_ok W H Wc Hc n1 n2 g o c1 g' o' c2 x y z1 z2 w he he' hn hn' hc hc').mono ?_
      rintro e w' ⟨g3, c3, rfl, hg3, hz, hbel⟩
      exact ⟨_, _, _, _, _, by rw [hE], .inr ⟨hE, rfl, rfl, rfl, g3, hg3, rfl, by simpa using hz⟩, hbel⟩
    · have hE : pasteErr a1 b1 n1 a2 b2 n2 = pageErr a2 b2 n2 := by unfold pasteErr orI; rw [if_pos h]
      refine (paste_bad2 a1 b1 s1 n1 c1 a2 b2 s2 n2 c2 x y w h h').mono ?_
      rintro e w' ⟨rfl, hbel⟩
      exact ⟨0, 0, none, 0, 0, by rw [hE], .inl ⟨by rw [hE]; exact h', rfl, rfl, rfl, rfl, rfl⟩, hbel⟩
  · have hE : pasteErr a1 b1 n1 a2 b2 n2 = pageErr a1 b1 n1 := by unfold pasteErr orI; rw [if_neg h]
    refine (paste_bad1 a1 b1 s1 n1 c1 a2 b2 s2 n2 c2 x y w h).mono ?_
    rintro e w' ⟨rfl, hbel⟩
    exact ⟨0, 0, none, 0, 0, by rw [hE], .inl ⟨by rw [hE]; exact h, rfl, rfl, rfl, rfl, rfl⟩, hbel⟩

/-- What was pasted is what is wanted. -/
theorem bitsIs_paste (a1 b1 : Int) (s1 : Option Addr) (n1 c1 : Nat) (a2 b2 : Int) (s2 : Option Addr) (n2 c2 : Nat) (x y i j : Int) (sl : Option Addr) (n' c' bb cb xb yb B : Nat) (z1 z2 : Nat → Bool) (w : World) (hI : PasteIs a1 b1 n1 a2 b2 n2 x y z1 z2 B w i j sl n' c') (hs1 : IsBools w s1 n1 c1 z1) (hs2 : IsBools w s2 n2 c2 z2)
    (kb0 : w.cell? ⟨bb, 0, none⟩ = some (.int .i64 a1)) (kb1 : w.cell? ⟨bb, 1, none⟩ = some (.int .i64 b1)) (kb2 : w.cell? ⟨bb, 2, none⟩ = some (.slice s1 n1 c1))
    (kc0 : w.cell? ⟨cb, 0, none⟩ = some (.int .i64 a2)) (kc1 : w.cell? ⟨cb, 1, none⟩ = some (.int .i64 b2)) (kc2 : w.cell? ⟨cb, 2, none⟩ = some (.slice s2 n2 c2))
    (kx : w.cell? ⟨xb, 0, none⟩ = some (.int .i64 x)) (ky : w.cell? ⟨yb, 0, none⟩ = some (.int .i64 y)) :
    Calls Try.prog 21 #[.agg #[.int .i64 i, .int .i64 j, .slice sl n' c'], .int .i64 (pasteErr a1 b1 n1 a2 b2 n2), .int .i64 (pasteErr a1 b1 n1 a2 b2 n2), .func (.func 54) #[] #[.pointer (some ⟨bb, 0, none⟩), .pointer (some ⟨cb, 0, none⟩), .pointer (some ⟨xb, 0, none⟩), .pointer (some ⟨yb, 0, none⟩)]] w fun e w' => e = .returned (.bool true) ∧ Below w.heap.size w w' := by
  rcases hI with ⟨hE, rfl, rfl, rfl, rfl, rfl⟩ | ⟨hE, rfl, rfl, rfl, g', _, rfl, hz⟩
  · exact bitsIs_err _ _ w hE
  · rw [hE]
    obtain ⟨h, h'⟩ := pasteErr_zero hE
    obtain ⟨W, H, rfl, rfl, hn, w1, w2, h1, h2, hN, he⟩ := page_nat h
    obtain ⟨Wc, Hc, rfl, rfl, hn', v1, v2, k1, k2, hN', he'⟩ := page_nat h'
    obtain ⟨g, o, rfl, hc⟩ := isBools_cells hs1 (by rw [hn]; exact Nat.mul_pos w1 h1)
    obtain ⟨g3, o3, rfl, hc'⟩ := isBools_cells hs2 (by rw [hn']; exact Nat.mul_pos v1 k1)
    simp only [Int.toNat_natCast] at hz
    subst hn hn'
    refine bitsIs_ok W H g' 0 (W * H) c' 54 _ _ w (by omega) (Go.Proofs.enters_of Try.func54 (by kernel_rfl) rfl) hz ?_
    intro wx hbx
    exact mixes2_any W H Wc Hc g o c1 g3 o3 c2 bb cb xb yb x y z1 z2 wx ⟨w1, w2⟩ ⟨h1, h2⟩ ⟨v1, v2⟩ ⟨k1, k2⟩ hN (cell_later hbx kx) (cell_later hbx ky) (cell_later hbx kb0) (cell_later hbx kb1) (cell_later hbx kb2) (cell_later hbx kc0) (cell_later hbx kc1) (cell_later hbx kc2) (fun k hk => cell_later hbx (hc k hk)) (fun k hk => cell_later hbx (hc' k hk))

end Go.Proofs.Ytcpgnfbjdokdcaa
namespace Go.Proofs.Ytcpgnfbjdokdcaa
open Go.RowKit
set_option linter.unusedSimpArgs false
set_option linter.unusedVariables false

/-- The five arguments that lie in boxes. -/
def Boxes5 (B : Nat) (a0 b0 : Int) (s0 : Option Addr) (n0 c0 : Nat) (a1 b1 : Int) (s1 : Option Addr) (n1 c1 : Nat) (a2 b2 : Int) (s2 : Option Addr) (n2 c2 : Nat) (x y : Int) (w : World) : Prop :=
  (w.cell? ⟨B, 0, none⟩ = some (.int .i64 a0) ∧ w.cell? ⟨B, 1, none⟩ = some (.int .i64 b0) ∧ w.cell? ⟨B, 2, none⟩ = some (.slice s0 n0 c0)) ∧
  (w.cell? ⟨B + 1, 0, none⟩ = some (.int .i64 a1) ∧ w.cell? ⟨B + 1, 1, none⟩ = some (.int .i64 b1) ∧ w.cell? ⟨B + 1, 2, none⟩ = some (.slice s1 n1 c1)) ∧
  (w.cell? ⟨B + 2, 0, none⟩ = some (.int .i64 a2) ∧ w.cell? ⟨B + 2, 1, none⟩ = some (.int .i64 b2) ∧ w.cell? ⟨B + 2, 2, none⟩ = some (.slice s2 n2 c2)) ∧
  w.cell? ⟨B + 3, 0, none⟩ = some (.int .i64 x) ∧ w.cell? ⟨B + 4, 0, none⟩ = some (.int .i64 y)

theorem Boxes5.later {B : Nat} {a0 b0 : Int} {s0 : Option Addr} {n0 c0 : Nat} {a1 b1 : Int} {s1 : Option Addr} {n1 c1 : Nat} {a2 b2 : Int} {s2 : Option Addr} {n2 c2 : Nat} {x y : Int} {w w' : World} (h : Boxes5 B a0 b0 s0 n0 c0 a1 b1 s1 n1 c1 a2 b2 s2 n2 c2 x y w) (hb : Below w.heap.size w w') :
    Boxes5 B a0 b0 s0 n0 c0 a1 b1 s1 n1 c1 a2 b2 s2 n2 c2 x y w' := by
  obtain ⟨⟨g0, g1, g2⟩, ⟨k0, k1, k2⟩, ⟨m0, m1, m2⟩, e0, e1⟩ := h
  exact ⟨⟨cell_later hb g0, cell_later hb g1, cell_later hb g2⟩, ⟨cell_later hb k0, cell_later hb k1, cell_later hb k2⟩, ⟨cell_later hb m0, cell_later hb m1, cell_later hb m2⟩, cell_later hb e0, cell_later hb e1⟩

theorem half_wrap {W : Nat} (h : W ≤ 4000) : IntKind.i64.wrap ((IntKind.i64.wrap ((W : Int) + 1)).tdiv 2) = ((W : Int) + 1) / 2 := by
  have h1 : IntKind.i64.wrap ((W : Int) + 1) = (W : Int) + 1 := IntWalk.i64_in _ (by omega)
  rw [h1, Int.tdiv_eq_ediv_of_nonneg (by omega)]
  exact IntWalk.i64_in _ (by omega)

set_option maxHeartbeats 4000000 in
set_option maxRecDepth 100000 in
theorem mix_walk (a0 b0 : Int) (s0 : Option Addr) (n0 c0 : Nat) (zs : List Int) (a1 b1 : Int) (s1 : Option Addr) (n1 c1 : Nat) (z1 : Nat → Bool) (a2 b2 : Int) (s2 : Option Addr) (n2 c2 : Nat) (z2 : Nat → Bool) (x y : Int) (w : World) (hs0 : IsBytes w s0 n0 c0 zs) (hs1 : IsBools w s1 n1 c1 z1) (hs2 : IsBools w s2 n2 c2 z2) :
    Calls Try.prog 5 #[.agg #[.int .i64 a0, .int .i64 b0, .slice s0 n0 c0], .agg #[.int .i64 a1, .int .i64 b1, .slice s1 n1 c1], .agg #[.int .i64 a2, .int .i64 b2, .slice s2 n2 c2], .int .i64 x, .int .i64 y] w fun e w' => e = .returned (.bool true) ∧ Below w.heap.size w w' := by
  have HS0 := Lib.hid hs0
  have HS1 := Lib.hid hs1
  have HS2 := Lib.hid hs2
  clear hs0 hs1 hs2
  go_enter Try.func5, Try.ntmps5
  go_wp2_with fail
  obtain ⟨w0, hw0⟩ : ∃ w0, w0 = ((((w.alloc (.cells #[.int .i64 a0, .int .i64 b0, .slice s0 n0 c0] 27)).alloc (.cells #[.int .i64 a1, .int .i64 b1, .slice s1 n1 c1] 24)).alloc (.cells #[.int .i64 a2, .int .i64 b2, .slice s2 n2 c2] 24)).alloc (.cells #[.int .i64 x] 3)).alloc (.cells #[.int .i64 y] 3) := ⟨_, rfl⟩
  have B0 : Below w.heap.size w w0 := by rw [hw0]; exact below_alloc (below_alloc (below_alloc (below_alloc (new_below _ _) _) _) _) _
  have T0 : Boxes5 w.heap.size a0 b0 s0 n0 c0 a1 b1 s1 n1 c1 a2 b2 s2 n2 c2 x y w0 := by
    rw [hw0]
    refine ⟨⟨?_, ?_, ?_⟩, ⟨?_, ?_, ?_⟩, ⟨?_, ?_, ?_⟩, ?_, ?_⟩ <;> go_simp
  rw [← hw0]
  clear hw0
  refine (halve_any a0 b0 s0 n0 c0 zs w0 (isBytes_later HS0.out B0)).mono ?_
  rintro e wa ⟨i, j, sl, n', c', rfl, hI, hba⟩
  have HI := Lib.hid hI
  have HTa := Lib.hid (T0.later (below_step hba (new_below wa (.cells #[.int .i64 i, .int .i64 j, .slice sl n' c'] 27))))
  have BA := Lib.hid (below_alloc (below_step B0 hba) (.cells #[.int .i64 i, .int .i64 j, .slice sl n' c'] 27))
  obtain ⟨⟨k0, k1, k2⟩, -, -, -, -⟩ := T0.later hba
  have l0 := World.block_lt_of_cell? _ _ k0
  simp only at l0
  clear hI hba B0 T0
  go_wp2_with fail
  refine (grayError_any a0 b0 s0 n0 c0 _).mono ?_
  rintro e wb ⟨rfl, hbb⟩
  have HTb := Lib.hid (HTa.out.later hbb)
  have HNb := Lib.hid (below_block hbb (heap_alloc_new wa (.cells #[.int .i64 i, .int .i64 j, .slice sl n' c'] 27)))
  have HIb := Lib.hid ((HI.out.later (new_below wa (.cells #[.int .i64 i, .int .i64 j, .slice sl n' c'] 27))).later hbb)
  have BB := Lib.hid (below_step BA.out hbb)
  clear hbb HTa HI BA k0 k1 k2 l0
  obtain ⟨⟨k0, k1, k2⟩, -, -, -, -⟩ := HTb.out
  obtain ⟨p0, p1, p2, pr0, pr1, pr2⟩ := block3 HNb.out
  have l0 := World.block_lt_of_cell? _ _ k0
  have l3 := World.block_lt_of_cell? _ _ p0
  simp only at l0 l3
  clear pr0 pr1 pr2
  go_upto_if 24 with fail
  go_cut [12, 13] from 16 (fun _ _ wx => Hid (Boxes5 w.heap.size a0 b0 s0 n0 c0 a1 b1 s1 n1 c1 a2 b2 s2 n2 c2 x y wx ∧ Below w.heap.size w wx))
  case first =>
    by_cases hE : pageErr a0 b0 n0 = 0
    · have HE := Lib.hid hE
      obtain ⟨W, H, rfl, rfl, hn, w1, w2, h1, h2, hN, he⟩ := page_nat hE
      have HNN := Lib.hid hn
      obtain ⟨p2, d1⟩ : ∃ v : Nat, ((W : Int) + 1) / 2 = (v : Int) := ⟨(W + 1) / 2, by omega⟩
      obtain ⟨q2, d2⟩ : ∃ v : Nat, ((H : Int) + 1) / 2 = (v : Int) := ⟨(H + 1) / 2, by omega⟩
      have d1' : IntKind.i64.wrap ((IntKind.i64.wrap ((W : Int) + 1)).tdiv 2) = (p2 : Int) := by rw [half_wrap (by omega)]; exact d1
      have d2' : IntKind.i64.wrap ((IntKind.i64.wrap ((H : Int) + 1)).tdiv 2) = (q2 : Int) := by rw [half_wrap (by omega)]; exact d2
      have D1 := Lib.hid d1'
      have D2 := Lib.hid d2'
      clear d1' d2'
      have HM := Lib.hid (made_halve W H p2 q2 i j sl s0 n' c' n0 c0 w.heap.size w0.heap.size zs wb.drew (HIb.out.later (Below.refl wb.heap.size wb).drew) HE.out (isBytes_later HS0.out BB.out.drew) d1.symm d2.symm (cell_later (Below.refl wb.heap.size wb).drew HTb.out.1.1) (cell_later (Below.refl wb.heap.size wb).drew HTb.out.1.2.1) (cell_later (Below.refl wb.heap.size wb).drew HTb.out.1.2.2))
      clear hn hN
      go_wp2_with fail
      refine (small_any W H _ he).mono ?_
      rintro e wq ⟨q, rfl, rfl⟩
      cases q
      · go_wp2_with fail
        go_meet
        case rel => exact Lib.hid ⟨HTb.out, BB.out⟩
      · obtain ⟨e1, e2, hdn, g', zc, e3, hzc, hcall⟩ := HM.out
        have HCALL := Lib.hid hcall
        have HZC := Lib.hid hzc
        subst e1 e2
        clear hcall hzc HM he
        go_wp2_with fail
        go_region_held3 (fun w' => w'.cell? ⟨wa.heap.size, 0, none⟩ = some (.int .i64 p2) ∧ w'.cell? ⟨wa.heap.size, 1, none⟩ = some (.int .i64 q2) ∧ w'.cell? ⟨wa.heap.size, 2, none⟩ = some (.slice sl n' c') ∧ w'.cell? ⟨w.heap.size, 0, none⟩ = some (.int .i64 W) ∧ w'.cell? ⟨w.heap.size, 1, none⟩ = some (.int .i64 H))
          (first | (go_keep; done) | (go_split_ands; exact ⟨cell_later hbn (by assumption), cell_later hbn (by assumption), cell_later hbn (by assumption), cell_later hbn (by assumption), cell_later hbn (by assumption)⟩) | (go_split_ands; exact ⟨cell_later hbo (by assumption), cell_later hbo (by assumption), cell_later hbo (by assumption), cell_later hbo (by assumption), cell_later hbo (by assumption)⟩))
          ((first | (go_at_call 30; rw [D1.out, D2.out]; with_reducible refine HCALL.out.mono ?_; rintro e wn ⟨g2, cc2, rfl, hz2, hbn⟩; have HZ2 := Lib.hid hz2; clear hz2) | (go_at_call 29; with_reducible refine (sameGray_true _ _ g' 0 g2 0 n' c' cc2 zc _ hdn (fun j hj => cell_later hbn (HZC.out j hj)) HZ2.out).mono ?_; rintro e wo ⟨rfl, hbo⟩)))
        all_goals go_wp2_with fail
        all_goals go_meet
        case rel => exact Lib.hid ⟨HTb.out.later (below_step (below_step (Below.refl wb.heap.size wb).drew hbn) hbo), below_step (below_step BB.out.drew hbn) hbo⟩
    · rcases HIb.out with ⟨_, y1, y2, y3, y4, y5⟩ | ⟨h0, _⟩
      · have hE1 : (pageErr a0 b0 n0 != 0) = true := by simpa using hE
        clear hE
        subst y1 y2 y3 y4 y5
        go_wp2_with (first | (go_at_call 28; refine (noGray_zero _).mono ?_; rintro e wz ⟨rfl, hbz⟩))
        go_meet
        case rel => exact Lib.hid ⟨HTb.out.later hbz, below_step BB.out hbz⟩
      · exact absurd h0 hE
  case rest =>
    have HF := hcut
    obtain ⟨wf, rfl⟩ : ∃ wf, wf = wc := ⟨_, rfl⟩
    clear k0 k1 k2 p0 p1 p2 l0 l3 HTb HNb HIb BB hcut
    have HTf := Lib.hid HF.out.1
    have BF := Lib.hid HF.out.2
    clear HF
    obtain ⟨-, ⟨k0, k1, k2⟩, ⟨m0, m1, m2⟩, e0, e1⟩ := HTf.out
    go_wp2_with fail
    refine (paste_any a1 b1 s1 n1 c1 a2 b2 s2 n2 c2 x y z1 z2 wf (isBools_later HS1.out BF.out) (isBools_later HS2.out BF.out)).mono ?_
    rintro e wg ⟨pi, pj, ps, pn, pc, rfl, hI, hbg⟩
    have hng := new_below wg (.cells #[.int .i64 pi, .int .i64 pj, .slice ps pn pc] 24)
    have HIh := Lib.hid (hI.later hng)
    have HTh := Lib.hid (HTf.out.later (below_step hbg hng))
    have BH := Lib.hid (below_step (below_step BF.out hbg) hng)
    have HNh := Lib.hid (heap_alloc_new wg (.cells #[.int .i64 pi, .int .i64 pj, .slice ps pn pc] 24))
    clear hI hbg hng BF k0 k1 k2 m0 m1 m2 e0 e1 HTf
    obtain ⟨wh, hwh⟩ : ∃ wh, wh = wg.alloc (.cells #[.int .i64 pi, .int .i64 pj, .slice ps pn pc] 24) := ⟨_, rfl⟩
    rw [← hwh] at HIh HTh BH HNh
    go_upto_region 10 with fail
    rw [← hwh]
    clear hwh
    obtain ⟨-, ⟨k0, k1, k2⟩, ⟨m0, m1, m2⟩, -, -⟩ := HTh.out
    have l1 := World.block_lt_of_cell? _ _ k0
    have l2 := World.block_lt_of_cell? _ _ m0
    simp only at l1 l2
    go_cut [15] from 16 (fun t wx => t = .int .i64 (pasteErr a1 b1 n1 a2 b2 n2) ∧ Hid (Boxes5 w.heap.size a0 b0 s0 n0 c0 a1 b1 s1 n1 c1 a2 b2 s2 n2 c2 x y wx ∧ wx.heap[wg.heap.size]? = some (.cells #[.int .i64 pi, .int .i64 pj, .slice ps pn pc] 24 (0, 0)) ∧ PasteIs a1 b1 n1 a2 b2 n2 x y z1 z2 wf.heap.size wx pi pj ps pn pc ∧ Below w.heap.size w wx))
    case first =>
      go_region_held3 (fun w' => w'.cell? ⟨w.heap.size + 1, 0, none⟩ = some (.int .i64 a1) ∧ w'.cell? ⟨w.heap.size + 1, 1, none⟩ = some (.int .i64 b1) ∧ w'.cell? ⟨w.heap.size + 1, 2, none⟩ = some (.slice s1 n1 c1) ∧
          w'.cell? ⟨w.heap.size + 2, 0, none⟩ = some (.int .i64 a2) ∧ w'.cell? ⟨w.heap.size + 2, 1, none⟩ = some (.int .i64 b2) ∧ w'.cell? ⟨w.heap.size + 2, 2, none⟩ = some (.slice s2 n2 c2))
        (first | (go_keep; done) | (go_split_ands; exact ⟨cell_later hbi (by assumption), cell_later hbi (by assumption), cell_later hbi (by assumption), cell_later hbi (by assumption), cell_later hbi (by assumption), cell_later hbi (by assumption)⟩) | (go_split_ands; exact ⟨cell_later hbk (by assumption), cell_later hbk (by assumption), cell_later hbk (by assumption), cell_later hbk (by assumption), cell_later hbk (by assumption), cell_later hbk (by assumption)⟩))
        ((first | (go_at_call 9; with_reducible refine (bitsError_any a1 b1 s1 n1 c1 _).mono ?_; rintro e wi ⟨rfl, hbi⟩) | (go_at_call 9; with_reducible refine (bitsError_any a2 b2 s2 n2 c2 _).mono ?_; rintro e wk ⟨rfl, hbk⟩) | (go_at_call 22; refine (first2_new _ _ _).mono ?_; rintro e w' ⟨rfl, rfl⟩)))
      all_goals go_wp2_with fail
      all_goals go_meet
      case rel =>
        have hbz := below_alloc (below_step (below_step (Below.refl wh.heap.size wh).drew hbi) hbk) (.cells #[.int .i64 (pageErr a1 b1 n1), .int .i64 (pageErr a2 b2 n2)] 30)
        exact ⟨rfl, Lib.hid ⟨HTh.out.later hbz, below_block hbz HNh.out, HIh.out.later hbz, below_step BH.out hbz⟩⟩
    case rest =>
      obtain ⟨rfl, HF⟩ := hcut
      obtain ⟨wj, rfl⟩ : ∃ wj, wj = wc := ⟨_, rfl⟩
      clear k0 k1 k2 m0 m1 m2 l1 l2 HIh HTh BH HNh
      go_wp2_with fail
      refine (pages_any _).mono ?_
      rintro e wp ⟨rfl, hbp⟩
      have HTp := Lib.hid (HF.out.1.later hbp)
      have HNp := Lib.hid (below_block hbp HF.out.2.1)
      have HIp := Lib.hid (HF.out.2.2.1.later hbp)
      have BP := Lib.hid (below_step HF.out.2.2.2 hbp)
      clear hbp HF
      obtain ⟨-, ⟨k0, k1, k2⟩, -, -, -⟩ := HTp.out
      obtain ⟨p0, p1, p2, pr0, pr1, pr2⟩ := block3 HNp.out
      have l1 := World.block_lt_of_cell? _ _ k0
      have l3 := World.block_lt_of_cell? _ _ p0
      simp only at l1 l3
      clear pr0 pr1 pr2
      have HB := Lib.hid (bitsIs_paste a1 b1 s1 n1 c1 a2 b2 s2 n2 c2 x y pi pj ps pn pc (w.heap.size + 1) (w.heap.size + 2) (w.heap.size + 3) (w.heap.size + 4) wf.heap.size z1 z2 wp HIp.out (isBools_later HS1.out BP.out) (isBools_later HS2.out BP.out) HTp.out.2.1.1 HTp.out.2.1.2.1 HTp.out.2.1.2.2 HTp.out.2.2.1.1 HTp.out.2.2.1.2.1 HTp.out.2.2.1.2.2 HTp.out.2.2.2.1 HTp.out.2.2.2.2)
      by_cases hP : pasteErr a1 b1 n1 a2 b2 n2 = 0
      · have hsz := (page_parts (pasteErr_zero hP).1).1
        have hP1 : (pasteErr a1 b1 n1 a2 b2 n2 == 0) = true := by simpa using hP
        clear hP
        go_wp2_with fail
        refine (small_any a1 b1 _ hsz).mono ?_
        rintro e wq ⟨q, rfl, rfl⟩
        cases q
        · go_wp2_with fail
          refine (pages_any _).mono ?_
          rintro e wr ⟨rfl, hbr⟩
          go_wp2_with fail
          go_ret
          exact ⟨rfl, below_step BP.out hbr⟩
        · go_wp2_with fail
          refine HB.out.mono ?_
          rintro e wr ⟨rfl, hbr⟩
          go_wp2_with fail
          go_ret
          exact ⟨rfl, below_step BP.out hbr⟩
      · have hP1 : (pasteErr a1 b1 n1 a2 b2 n2 == 0) = false := by simpa using hP
        clear hP
        go_wp2_with fail
        refine HB.out.mono ?_
        rintro e wr ⟨rfl, hbr⟩
        go_wp2_with fail
        go_ret
        exact ⟨rfl, below_step BP.out hbr⟩

end Go.Proofs.Ytcpgnfbjdokdcaa
namespace Go.Proofs.Ytcpgnfbjdokdcaa
open Go.ChangeShapes Go.WideShapes Go.ChangeAt Go.RowKit Go.Joins
set_option linter.unusedVariables false

set_option maxRecDepth 100000 in
theorem mix_lifted (os : Os) (started : os.Started) (H : Type) (enc : TypeId × Value → H) :
    ReturnsInHanded {} Try.checked os 5 .any (Rows.mixesMatchSpec.pre6 enc Try.prog Try.f5 Rows.mixesMatchRow.domain false) (Rows.mixesMatchSpec.post enc Try.prog Try.f5 false true false false) := by
  refine returnsInHanded_of_change (C := Try.checked) own started (by kernel_rfl) Try.func5
    (ChangeSpec.witness6 (enc := enc) (C := Try.checked) false ⟨#[], #[.agg #[.int .i64 0, .int .i64 0, .slice none 0 0], .agg #[.int .i64 0, .int .i64 0, .slice none 0 0], .agg #[.int .i64 0, .int .i64 0, .slice none 0 0], .int .i64 0, .int .i64 0], []⟩ 8 (by kernel_rfl) (by kernel_rfl) (by kernel_rfl) (by kernel_rfl)) ?_
  intro W base args ds gs before hval0 hW hcnd _
  have hval : ∀ (j : Nat) t v, Try.f5.params[j]? = some t → args[j]? = some v → Value.okWide Try.prog W .any base t v := hval0
  have hW' := hW
  obtain ⟨p, q, hA0, hV, rfl, hfz, hnd⟩ := hW
  have hA : DataW.TrodAll enc Try.prog W 0 (fun _ => true) true Try.f5.params.toList args.toList ds p := hA0
  rw [Try.params5] at hA hval
  obtain ⟨v0, vs0, d0, ds0, p0, q0, hargs, rfl, rfl, h0, r0⟩ := trodAll_cons hA
  obtain ⟨v1, vs1, d1, ds1, p1, q1, rfl, rfl, rfl, h1, r1⟩ := trodAll_cons r0
  obtain ⟨v2, vs2, d2, ds2, p2, q2, rfl, rfl, rfl, h2, r2⟩ := trodAll_cons r1
  obtain ⟨v3, vs3, d3, ds3, p3, q3, rfl, rfl, rfl, h3, r3⟩ := trodAll_cons r2
  obtain ⟨v4, vs4, d4, ds4, p4, q4, rfl, rfl, rfl, h4, r4⟩ := trodAll_cons r3
  obtain ⟨rfl, rfl, rfl⟩ := trodAll_nil r4
  obtain rfl : args = #[v0, v1, v2, v3, v4] := by cases args; simp_all
  obtain ⟨rfl, rfl⟩ := trodVars_none hV
  have k0 := h0
  have k1 := h1
  have k2 := h2
  have lt0 : ∀ x ∈ p0, x.block < W.heap.size := by obtain ⟨m, hm⟩ := k0; exact DataW.trod_lt m _ _ _ hm
  have lt1 : ∀ x ∈ p1, x.block < W.heap.size := by obtain ⟨m, hm⟩ := k1; exact DataW.trod_lt m _ _ _ hm
  have lt2 : ∀ x ∈ p2, x.block < W.heap.size := by obtain ⟨m, hm⟩ := k2; exact DataW.trod_lt m _ _ _ hm
  obtain ⟨a0, b0, s0, n0, c0, zs, rfl, hs0⟩ := open_gray (hval 0 27 v0 rfl rfl) h0
  obtain ⟨a1, b1, s1, n1, c1, z1, rfl, hs1⟩ := open_bits (hval 1 24 v1 rfl rfl) h1
  obtain ⟨a2, b2, s2, n2, c2, z2, rfl, hs2⟩ := open_bits (hval 2 24 v2 rfl rfl) h2
  obtain ⟨m3, rfl, rfl, rfl, w3⟩ := open_int Try.underlying3 (hval 3 3 v3 rfl rfl) h3
  obtain ⟨m4, rfl, rfl, rfl, w4⟩ := open_int Try.underlying3 (hval 4 3 v4 rfl rfl) h4
  clear hA0 hval0
  refine (mix_walk a0 b0 s0 n0 c0 zs a1 b1 s1 n1 c1 z1 a2 b2 s2 n2 c2 z2 m3 m4 W hs0 hs1 hs2).mono fun e W' ⟨he, bel⟩ => ?_
  subst he
  exact ⟨_, rfl, _, _, _, [], _, [], hW', trodAll_mk1 (shut_bool Try.underlying4 _), (trodAll_cons_mk (Below.trod laidOut (by kernel_rfl) (of_decide_eq_true (by kernel_rfl)) k0 bel lt0) (trodAll_cons_mk (Below.trod laidOut (by kernel_rfl) (of_decide_eq_true (by kernel_rfl)) k1 bel lt1) (trodAll_cons_mk (Below.trod laidOut (by kernel_rfl) (of_decide_eq_true (by kernel_rfl)) k2 bel lt2) (trodAll_cons_mk (shut_int Try.underlying3 w3) (trodAll_cons_mk (shut_int Try.underlying3 w4) trodAll_mk0))))), rfl, bel.frame _, fun h => by cases h⟩

theorem mix_over : Rows.mixesMatchRow.holds Try.pinned (OpenSpec.ofChange Rows.mixesMatchSpec) :=
  OpenClaim.holds_of_wide 5 Try.f5 rfl rfl rfl rfl rfl rfl rfl ⟨rfl, rfl, rfl, rfl, rfl⟩ rfl rfl rfl rfl rfl (by kernel_rfl) Try.func5 (by kernel_rfl)
    (of_decide_eq_true (by kernel_rfl)) (by unfold Func.isWrapper; first | (rw [if_pos (by decide +kernel)]; kernel_rfl) | (rw [if_neg (by decide +kernel)]; exact ⟨rfl, rfl⟩))
    (fun os started H enc _ => mix_lifted os started H enc)

theorem mix_holds : Rows.MixesMatchSaid := mix_over
end Go.Proofs.Ytcpgnfbjdokdcaa
