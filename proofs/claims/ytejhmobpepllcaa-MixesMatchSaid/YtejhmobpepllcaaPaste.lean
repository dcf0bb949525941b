/-
  The contract of page.Paste.
-/
import Derived.Test.YtejhmobpepllcaaPasteM
namespace Go.Proofs.Ytejhmobpepllcaa
open Go.RowKit
set_option linter.unusedSimpArgs false
set_option linter.unusedVariables false

theorem paste_bad1 (a1 b1 : Int) (s1 : Option Addr) (n1 c1 : Nat) (a2 b2 : Int) (s2 : Option Addr) (n2 c2 : Nat) (x y : Int) (w : World) (h : pageErr a1 b1 n1 ≠ 0) :
    Calls Try.prog 56 #[.agg #[.int .i64 a1, .int .i64 b1, .slice s1 n1 c1], .agg #[.int .i64 a2, .int .i64 b2, .slice s2 n2 c2], .int .i64 x, .int .i64 y] w fun e w' => e = .returned (.tuple #[.agg #[.int .i64 0, .int .i64 0, .slice none 0 0], .int .i64 (pageErr a1 b1 n1)]) ∧ Below w.heap.size w w' := by
  have h' : (pageErr a1 b1 n1 != 0) = true := by simpa using h
  clear h
  go_enter Try.func56, Try.ntmps56
  go_wp2_with ((go_at_call 16; refine (checkBits_any _ _ _ _ _ _).mono ?_; rintro e w' ⟨rfl, rfl⟩))
  refine bodyPost_ret (v := .tuple #[.agg #[.int .i64 0, .int .i64 0, .slice none 0 0], .int .i64 (pageErr a1 b1 n1)]) (by simp [results, Try.results56, go_sem]) rfl ⟨rfl, below_alloc (below_alloc (below_alloc (new_below _ _) _) _) _⟩

theorem paste_bad2 (a1 b1 : Int) (s1 : Option Addr) (n1 c1 : Nat) (a2 b2 : Int) (s2 : Option Addr) (n2 c2 : Nat) (x y : Int) (w : World) (h1 : pageErr a1 b1 n1 = 0) (h : pageErr a2 b2 n2 ≠ 0) :
    Calls Try.prog 56 #[.agg #[.int .i64 a1, .int .i64 b1, .slice s1 n1 c1], .agg #[.int .i64 a2, .int .i64 b2, .slice s2 n2 c2], .int .i64 x, .int .i64 y] w fun e w' => e = .returned (.tuple #[.agg #[.int .i64 0, .int .i64 0, .slice none 0 0], .int .i64 (pageErr a2 b2 n2)]) ∧ Below w.heap.size w w' := by
  have h' : (pageErr a2 b2 n2 != 0) = true := by simpa using h
  clear h
  go_enter Try.func56, Try.ntmps56
  go_wp2_with ((go_at_call 16; refine (checkBits_any _ _ _ _ _ _).mono ?_; rintro e w' ⟨rfl, rfl⟩))
  refine bodyPost_ret (v := .tuple #[.agg #[.int .i64 0, .int .i64 0, .slice none 0 0], .int .i64 (pageErr a2 b2 n2)]) (by simp [results, Try.results56, go_sem]) rfl ⟨rfl, below_alloc (below_alloc (below_alloc (below_alloc (new_below _ _) _) _) _) _⟩

set_option maxHeartbeats 2000000 in
set_option maxRecDepth 100000 in
theorem paste_ok (W H Wc Hc n1 n2 g1 o1 c1 g2 o2 c2 : Nat) (x y : Int) (z1 z2 : Nat → Bool) (w : World) (he1 : sizeErr W H = 0) (he2 : sizeErr Wc Hc = 0) (hn1 : n1 = W * H) (hn2 : n2 = Wc * Hc)
    (hc1 : ∀ j, j < n1 → w.cell? ⟨g1, o1 + j, none⟩ = some (.bool (z1 j))) (hc2 : ∀ j, j < n2 → w.cell? ⟨g2, o2 + j, none⟩ = some (.bool (z2 j))) :
    Calls Try.prog 56 #[.agg #[.int .i64 W, .int .i64 H, .slice (some ⟨g1, o1, none⟩) n1 c1], .agg #[.int .i64 Wc, .int .i64 Hc, .slice (some ⟨g2, o2, none⟩) n2 c2], .int .i64 x, .int .i64 y] w fun e w' =>
      ∃ g c, e = .returned (.tuple #[.agg #[.int .i64 W, .int .i64 H, .slice (some ⟨g, 0, none⟩) n1 c], .int .i64 0]) ∧ w.heap.size ≤ g ∧ (∀ k, k < n1 → w'.cell? ⟨g, 0 + k, none⟩ = some (.bool (pasteAt W Wc Hc x y z1 z2 (k % W) (k / W)))) ∧ Below w.heap.size w w' := by
  obtain ⟨⟨a1, a2, a3, a4⟩, z0, z3⟩ := sizeErr_zero he1
  obtain ⟨⟨e1, e2, e3, e4⟩, z4, z5⟩ := sizeErr_zero he2
  have hN1 : n1 ≤ 1048576 := by rw [hn1]; rw [← Int.natCast_mul] at z3; omega
  have hN2 : n2 ≤ 1048576 := by rw [hn2]; rw [← Int.natCast_mul] at z5; omega
  have hp1 : pageErr W H n1 = 0 := by unfold pageErr; rw [if_pos he1, if_pos (by rw [hn1]; simp [Int.natCast_mul])]
  have hp2 : pageErr Wc Hc n2 = 0 := by unfold pageErr; rw [if_pos he2, if_pos (by rw [hn2]; simp [Int.natCast_mul])]
  have hn1' : 1 ≤ n1 := by rw [hn1]; exact Nat.mul_pos (by omega) (by omega)
  have HC1 := Lib.hid hc1
  have HC2 := Lib.hid hc2
  have HN1 := Lib.hid hn1
  have HN2 := Lib.hid hn2
  clear hc1 hc2 hn1 hn2 he1 he2 z0 z3 z4 z5
  go_enter Try.func56, Try.ntmps56
  go_wp2_with ((go_at_call 16; refine (checkBits_any _ _ _ _ _ _).mono ?_; rintro e w' ⟨rfl, rfl⟩))
  obtain ⟨w0, hw0⟩ : ∃ w0, w0 = ((((w.alloc (.cells #[.int .i64 W, .int .i64 H, .slice (some ⟨g1, o1, none⟩) n1 c1] 24)).alloc (.cells #[.int .i64 Wc, .int .i64 Hc, .slice (some ⟨g2, o2, none⟩) n2 c2] 24)).alloc (.cells #[.int .i64 0, .int .i64 0, .slice none 0 0] 24)).alloc (.cells #[.int .i64 W, .int .i64 H, .slice (some ⟨g1, o1, none⟩) n1 c1] 24)).alloc (.cells #[.int .i64 Wc, .int .i64 Hc, .slice (some ⟨g2, o2, none⟩) n2 c2] 24) := ⟨_, rfl⟩
  have B0 : Below w.heap.size w w0 := by rw [hw0]; exact below_alloc (below_alloc (below_alloc (below_alloc (new_below _ _) _) _) _) _
  have q0 : w0.cell? ⟨w.heap.size, 0, none⟩ = some (.int .i64 W) := by rw [hw0]; go_simp
  have q1 : w0.cell? ⟨w.heap.size, 1, none⟩ = some (.int .i64 H) := by rw [hw0]; go_simp
  have q2 : w0.cell? ⟨w.heap.size, 2, none⟩ = some (.slice (some ⟨g1, o1, none⟩) n1 c1) := by rw [hw0]; go_simp
  have q3 : w0.cell? ⟨w.heap.size + 1, 0, none⟩ = some (.int .i64 Wc) := by rw [hw0]; go_simp
  have q4 : w0.cell? ⟨w.heap.size + 1, 1, none⟩ = some (.int .i64 Hc) := by rw [hw0]; go_simp
  have q5 : w0.cell? ⟨w.heap.size + 1, 2, none⟩ = some (.slice (some ⟨g2, o2, none⟩) n2 c2) := by rw [hw0]; go_simp
  have qb : w0.heap[w.heap.size + 1 + 1]? = some (.cells #[.int .i64 0, .int .i64 0, .slice none 0 0] 24 (0, 0)) := by
    rw [hw0, Below.heap_alloc _ _ _ (by simp), Below.heap_alloc _ _ _ (by simp)]
    simpa using heap_alloc_new ((w.alloc (.cells #[.int .i64 W, .int .i64 H, .slice (some ⟨g1, o1, none⟩) n1 c1] 24)).alloc (.cells #[.int .i64 Wc, .int .i64 Hc, .slice (some ⟨g2, o2, none⟩) n2 c2] 24)) (.cells #[.int .i64 0, .int .i64 0, .slice none 0 0] 24)
  rw [← hw0]
  clear hw0
  have LQ := Lib.hid (Array.getElem?_eq_some_iff.1 qb).1
  refine (clone_any g1 o1 n1 c1 z1 w0 hn1' hN1 (fun j hj => cell_later B0 (HC1.out j hj))).mono ?_
  rintro e w1 ⟨v, rfl, hown, hb1⟩
  obtain ⟨gp, cp, rfl⟩ : ∃ g c, v = .slice (some ⟨g, 0, none⟩) n1 c := by
    rcases hown.2 with ⟨_, h0⟩ | ⟨g, c, cur, rfl, _⟩
    · omega
    · exact ⟨g, c, rfl⟩
  have hgp := Lib.hid (hown.lt gp rfl).1
  have B1 := Lib.hid (below_step B0 hb1)
  have Bq := Lib.hid hb1
  have HO := Lib.hid hown
  have k0 := cell_later hb1 q0
  have k1 := cell_later hb1 q1
  have k2 := cell_later hb1 q2
  have k3 := cell_later hb1 q3
  have k4 := cell_later hb1 q4
  have k5 := cell_later hb1 q5
  clear hb1 hown q0 q1 q2 q3 q4 q5
  go_wp2_with fail
  refine (overlap_any W Wc x w1 (by omega) (by omega)).mono ?_
  rintro e wx ⟨fx, tx, rfl, hox, rfl⟩
  go_wp2_with fail
  refine (overlap_any H Hc y w1 (by omega) (by omega)).mono ?_
  rintro e wy ⟨fy, ty, rfl, hoy, rfl⟩
  have hx1 := hox.1
  have hx2 := hox.2.1
  have hy1 := hoy.1
  have hy2 := hoy.2.1
  have OX := Lib.hid hox
  have OY := Lib.hid hoy
  clear hox hoy
  have hst := pasteList_start W H Wc Hc x y z1 z2 fx tx fy ty (by omega) OX.out OY.out
  rw [← HN1.out] at hst
  have HST := Lib.hid hst
  clear hst
  go_wp2_with fail
  go_loopw [17] (fun i wr => ∃ j : Nat, fy ≤ j ∧ j ≤ ty ∧ i = .int .i64 j ∧ wr.ownsRow w0.heap.size 4 1 (.slice (some ⟨gp, 0, none⟩) n1 cp) n1 (pasteList W n1 Wc Hc x y z1 z2 j fx) ∧ Below w0.heap.size w1 wr) (fun i _ => ty - (intOf i).toNat)
  case atStart => exact ⟨fy, Nat.le_refl _, hy1, rfl, by rw [HST.out]; exact HO.out, Below.refl _ _⟩
  case round =>
    obtain ⟨j, hj1, hj2, rfl, hownr, hbr⟩ := hrel
    have lq := LQ.out
    by_cases hltj : j < ty
    · obtain ⟨wo, rfl⟩ : ∃ wo : World, wo = wr := ⟨_, rfl⟩
      go_wp2_with fail
      go_loopw [18] (fun i wr => ∃ i' : Nat, fx ≤ i' ∧ i' ≤ tx ∧ i = .int .i64 i' ∧ wr.ownsRow w0.heap.size 4 1 (.slice (some ⟨gp, 0, none⟩) n1 cp) n1 (pasteList W n1 Wc Hc x y z1 z2 j i') ∧ Below w0.heap.size w1 wr) (fun i _ => tx - (intOf i).toNat)
      case atStart => exact ⟨fx, Nat.le_refl _, hx1, rfl, hownr, hbr⟩
      case round =>
        obtain ⟨i, hi1, hi2, rfl, howni, hbi⟩ := hrel
        clear hownr hbr
        have f0 := (hbi.cell (p := ⟨w.heap.size, 0, none⟩) (by simp; omega)).trans k0
        have f3 := (hbi.cell (p := ⟨w.heap.size + 1, 0, none⟩) (by simp; omega)).trans k3
        have f5 := (hbi.cell (p := ⟨w.heap.size + 1, 2, none⟩) (by simp; omega)).trans k5
        by_cases hlti : i < tx
        · obtain ⟨ia, ib, ic⟩ := OX.out.2.2.1 i hi1 hlti
          obtain ⟨ja, jb, jc⟩ := OY.out.2.2.1 j hj1 hltj
          obtain ⟨a, ha⟩ := Int.eq_ofNat_of_zero_le ib
          obtain ⟨b, hb⟩ := Int.eq_ofNat_of_zero_le jb
          have haW : a < W := by omega
          have hbH : b < H := by omega
          have hfit := row_fits hbH (show a + 1 ≤ W by omega)
          have hfit2 := row_fits ja (show i + 1 ≤ Wc by omega)
          rw [← HN1.out] at hfit
          rw [← HN2.out] at hfit2
          have hcw := HC2.out (j * Wc + i) (by omega)
          have hcl := World.block_lt_of_cell? _ _ hcw
          simp only at hcl
          have hcc : wr.cell? ⟨g2, o2 + (j * Wc + i), none⟩ = some (.bool (z2 (j * Wc + i))) := (hbi.cell (p := ⟨g2, o2 + (j * Wc + i), none⟩) (by have := B0.size; simp; omega)).trans (cell_later B1.out hcw)
          have hstep := pasteList_step W H Wc Hc x y z1 z2 j i a b (by omega) (by omega) (by omega) haW hbH ia ja
          rw [← HN1.out] at hstep
          have ht := howni.cellAt (b * W + a) (by omega)
          rw [List.getElem?_eq_getElem (by rw [howni.1]; omega)] at ht
          have hfz := howni.frozenAt (b * W + a)
          obtain ⟨t, hte⟩ : ∃ t, t = (pasteList W n1 Wc Hc x y z1 z2 j i)[b * W + a]'(by rw [howni.1]; omega) := ⟨_, rfl⟩
          rw [← hte] at ht
          obtain ⟨K, hK⟩ : ∃ K, K = b * W + a := ⟨_, rfl⟩
          rw [← hK] at ht hfz hstep
          have hKn : K < n1 := by omega
          have x0 : (0 : Int) ≤ (j : Int) * (Wc : Int) := Int.mul_nonneg (by omega) (by omega)
          have x1 : (j : Int) * (Wc : Int) + (i : Int) < (n2 : Int) := by rw [← Int.natCast_mul]; omega
          have x2 : (0 : Int) ≤ (b : Int) * (W : Int) := Int.mul_nonneg (by omega) (by omega)
          have x3 : (b : Int) * (W : Int) ≤ 16000000 := by
            have := Nat.mul_le_mul (show b ≤ 4000 by omega) (show W ≤ 4000 by omega)
            rw [← Int.natCast_mul]; omega
          have eb : y + (j : Int) = (b : Int) := by omega
          have eK : (b : Int) * (W : Int) + x + (i : Int) = (K : Int) := by
            have : ((b * W + a : Nat) : Int) = (b : Int) * (W : Int) + (a : Int) := by rw [Int.natCast_add, Int.natCast_mul]
            omega
          have xx : - 4000 ≤ x ∧ x ≤ 4000 := by omega
          have yy : - 4000 ≤ y ∧ y ≤ 4000 := by omega
          obtain ⟨xx0, xx1⟩ := xx
          obtain ⟨yy0, yy1⟩ := yy
          have HS := Lib.hid hstep
          have HOI := Lib.hid howni
          have HBI := Lib.hid hbi
          clear hte hcw hstep howni hbi hfit hfit2 ib jb ha hb hK
          by_cases hz : z2 (j * Wc + i) = true
          · have HZ := Lib.hid hz
            rw [hz] at hcc
            clear hz
            go_wp2_with fail
            go_roundw
            case rel =>
              refine ⟨i + 1, by omega, by omega, by go_num, ?_, HBI.out.setCell hgp.out _⟩
              rw [HS.out, if_pos HZ.out]
              exact (HOI.out.stored K (.bool true)).1
            case measure => simp [intOf]; omega
          · have hz' : z2 (j * Wc + i) = false := by simpa using hz
            have HZ := Lib.hid hz
            rw [hz'] at hcc
            clear hz hz'
            go_wp2_with fail
            go_roundw
            case rel => exact ⟨i + 1, by omega, by omega, by go_num, by rw [HS.out, if_neg HZ.out]; exact HOI.out, HBI.out⟩
            case measure => simp [intOf]; omega
        · have hie := Lib.hid (show i = tx by omega)
          have hrow := pasteList_row W H Wc Hc x y z1 z2 fx tx j (by omega) OX.out
          rw [← HN1.out] at hrow
          have HR := Lib.hid hrow
          clear hrow
          go_wp2_with fail
          go_roundw
          case rel => exact ⟨j + 1, by omega, by omega, by go_num, by rw [← HR.out, ← hie.out]; exact howni, hbi⟩
          case measure => simp [intOf]; omega
    · have hje := Lib.hid (show j = ty by omega)
      have f0 := (hbr.cell (p := ⟨w.heap.size, 0, none⟩) (by simp; omega)).trans k0
      have f1 := (hbr.cell (p := ⟨w.heap.size, 1, none⟩) (by simp; omega)).trans k1
      have hblk : wr.heap[w.heap.size + 1 + 1]? = some (.cells #[.int .i64 0, .int .i64 0, .slice none 0 0] 24 (0, 0)) := (hbr.block _ lq).trans (below_block Bq.out qb)
      obtain ⟨j0, j1, j2, r0, r1, r2⟩ := block3 hblk
      have HBR := Lib.hid hbr
      have HOR := Lib.hid hownr
      clear hbr hownr hblk
      go_wp2_with fail
      refine bodyPost_ret (v := .tuple #[.agg #[.int .i64 W, .int .i64 H, .slice (some ⟨gp, 0, none⟩) n1 cp], .int .i64 0]) (by simp [results, Try.results56, go_sem, j0, j1, j2]) rfl ⟨gp, cp, rfl, ?_, fun k hk => ?_, ?_⟩
      · have := hgp.out; have := B0.size; omega
      · refine cell_far3 (show gp ≠ w.heap.size + 1 + 1 by have := hgp.out; omega) ?_
        rw [Nat.zero_add, HOR.out.cellAt k (by omega), hje.out]
        have he := pasteList_end W H Wc Hc x y z1 z2 fx fy ty (by omega) OY.out k (by rw [← HN1.out]; exact hk)
        simp [pasteList, List.getElem?_range hk, he]
      · exact below_far3 ((B1.out).trans (HBR.out.mono (by have := B0.size; omega))) (by omega)

end Go.Proofs.Ytejhmobpepllcaa
