/-
  What sheets_holds leans on: contracts of the functions that it calls.
-/
import Derived.Test.YtofcojcfcpfdmaaRows
import Derived.WalkKit
import Derived.WalkSpells
import Derived.WalkLawsBesides
import Derived.Lib.Hide
import Derived.Deep.RegionHeld3
import Derived.Shelf.Abstract
import Derived.Deep.AppendLies
import Derived.Deep.DrawnRows
import Derived.Deep.RegionLaw
import Derived.Deep.QuietTactic
import Derived.BigQuiet
import Derived.ProofKit
import Derived.OpenShut
import Derived.ShutString
import Derived.ChangeOld
import Derived.Lib.SmallJoins
import Derived.Deep.Grids
import Derived.Deep.DeepCutAuto
import Derived.Lib.MinMax
import Derived.Deep.CutRange
import Derived.Laws.EntriesVeiled
import Derived.StillTailTactics
import Derived.RegionTactic
import Derived.ChangeAlike
import Derived.BigRegion
import Derived.Test.YtofcojcfcpfdmaaCSheets4
namespace Go.Proofs.Ytofcojcfcpfdmaa
open Go.RowKit
set_option linter.unusedSimpArgs false
set_option linter.unusedVariables false

set_option maxHeartbeats 2000000 in
set_option maxRecDepth 100000 in
theorem paste_ok (W H Wc Hc n1 n2 g1 o1 c1 g2 o2 c2 : Nat) (x y : Int) (z1 z2 : Nat → Bool) (w : World) (he1 : sizeErr W H = 0) (he2 : sizeErr Wc Hc = 0) (hn1 : n1 = W * H) (hn2 : n2 = Wc * Hc)
    (hc1 : ∀ j, j < n1 → w.cell? ⟨g1, o1 + j, none⟩ = some (.bool (z1 j))) (hc2 : ∀ j, j < n2 → w.cell? ⟨g2, o2 + j, none⟩ = some (.bool (z2 j))) :
    Calls Try.prog 26 #[.agg #[.int .i64 W, .int .i64 H, .slice (some ⟨g1, o1, none⟩) n1 c1], .agg #[.int .i64 Wc, .int .i64 Hc, .slice (some ⟨g2, o2, none⟩) n2 c2], .int .i64 x, .int .i64 y] w fun e w' =>
      ∃ g c, e = .returned (.tuple #[.agg #[.int .i64 W, .int .i64 H, .slice (some ⟨g, 0, none⟩) n1 c], .int .i64 0]) ∧ w.heap.size ≤ g ∧ (∀ k, k < n1 → w'.cell? ⟨g, 0 + k, none⟩ = some (.bool (pasteAt W Wc Hc x y z1 z2 (k % W) (k / W)))) ∧ Below w.heap.size w w' := by
  obtain ⟨⟨a1, a2, a3, a4⟩, z0, z3⟩ := sizeErr_zero he1
  obtain ⟨⟨e1, e2, e3, e4⟩, z4, z5⟩ := sizeErr_zero he2
  have hN1 : n1 ≤ 1048576 := by rw [hn1]; rw [← Int.natCast_mul] at z3; omega
  have hN2 : n2 ≤ 1048576 := by rw [hn2]; rw [← Int.natCast_mul] at z5; omega
  have hp1 : pageErr W H n1 = 0 := by unfold pageErr; rw [if_pos he1, if_pos (by rw [hn1]; simp [Int.natCast_mul])]
  have hp2 : pageErr Wc Hc n2 = 0 := by unfold pageErr; rw [if_pos he2, if_pos (by rw [hn2]; simp [Int.natCast_mul])]
  have hn1' : 1 ≤ n1 := by rw [hn1]; exact Nat.mul_pos (by omega) (by omega)
  have HC1 := Lib.hid hc1
  have HC2 := Lib.hid hc2
  have HN1 := Lib.hid hn1
  have HN2 := Lib.hid hn2
  clear hc1 hc2 hn1 hn2 he1 he2 z0 z3 z4 z5
  go_enter Try.func26, Try.ntmps26
  go_wp2_with ((go_at_call 25; refine (checkBits_any _ _ _ _ _ _).mono ?_; rintro e w' ⟨rfl, rfl⟩))
  obtain ⟨w0, hw0⟩ : ∃ w0, w0 = ((((w.alloc (.cells #[.int .i64 W, .int .i64 H, .slice (some ⟨g1, o1, none⟩) n1 c1] 40)).alloc (.cells #[.int .i64 Wc, .int .i64 Hc, .slice (some ⟨g2, o2, none⟩) n2 c2] 40)).alloc (.cells #[.int .i64 0, .int .i64 0, .slice none 0 0] 40)).alloc (.cells #[.int .i64 W, .int .i64 H, .slice (some ⟨g1, o1, none⟩) n1 c1] 40)).alloc (.cells #[.int .i64 Wc, .int .i64 Hc, .slice (some ⟨g2, o2, none⟩) n2 c2] 40) := ⟨_, rfl⟩
  have B0 : Below w.heap.size w w0 := by rw [hw0]; exact below_alloc (below_alloc (below_alloc (below_alloc (new_below _ _) _) _) _) _
  have q0 : w0.cell? ⟨w.heap.size, 0, none⟩ = some (.int .i64 W) := by rw [hw0]; go_simp
  have q1 : w0.cell? ⟨w.heap.size, 1, none⟩ = some (.int .i64 H) := by rw [hw0]; go_simp
  have q2 : w0.cell? ⟨w.heap.size, 2, none⟩ = some (.slice (some ⟨g1, o1, none⟩) n1 c1) := by rw [hw0]; go_simp
  have q3 : w0.cell? ⟨w.heap.size + 1, 0, none⟩ = some (.int .i64 Wc) := by rw [hw0]; go_simp
  have q4 : w0.cell? ⟨w.heap.size + 1, 1, none⟩ = some (.int .i64 Hc) := by rw [hw0]; go_simp
  have q5 : w0.cell? ⟨w.heap.size + 1, 2, none⟩ = some (.slice (some ⟨g2, o2, none⟩) n2 c2) := by rw [hw0]; go_simp
  have qb : w0.heap[w.heap.size + 1 + 1]? = some (.cells #[.int .i64 0, .int .i64 0, .slice none 0 0] 40 (0, 0)) := by
    rw [hw0, Below.heap_alloc _ _ _ (by simp), Below.heap_alloc _ _ _ (by simp)]
    simpa using heap_alloc_new ((w.alloc (.cells #[.int .i64 W, .int .i64 H, .slice (some ⟨g1, o1, none⟩) n1 c1] 40)).alloc (.cells #[.int .i64 Wc, .int .i64 Hc, .slice (some ⟨g2, o2, none⟩) n2 c2] 40)) (.cells #[.int .i64 0, .int .i64 0, .slice none 0 0] 40)
  rw [← hw0]
  clear hw0
  have LQ := Lib.hid (Array.getElem?_eq_some_iff.1 qb).1
  refine (clone_any g1 o1 n1 c1 z1 w0 hn1' hN1 (fun j hj => cell_later B0 (HC1.out j hj))).mono ?_
  rintro e w1 ⟨v, rfl, hown, hb1⟩
  obtain ⟨gp, cp, rfl⟩ : ∃ g c, v = .slice (some ⟨g, 0, none⟩) n1 c := by
    rcases hown.2 with ⟨_, h0⟩ | ⟨g, c, cur, rfl, _⟩
    · omega
    · exact ⟨g, c, rfl⟩
  have hgp := Lib.hid (hown.lt gp rfl).1
  have B1 := Lib.hid (below_step B0 hb1)
  have Bq := Lib.hid hb1
  have HO := Lib.hid hown
  have k0 := cell_later hb1 q0
  have k1 := cell_later hb1 q1
  have k2 := cell_later hb1 q2
  have k3 := cell_later hb1 q3
  have k4 := cell_later hb1 q4
  have k5 := cell_later hb1 q5
  clear hb1 hown q0 q1 q2 q3 q4 q5
  go_wp2_with fail
  refine (overlap_any W Wc x w1 (by omega) (by omega)).mono ?_
  rintro e wx ⟨fx, tx, rfl, hox, rfl⟩
  go_wp2_with fail
  refine (overlap_any H Hc y w1 (by omega) (by omega)).mono ?_
  rintro e wy ⟨fy, ty, rfl, hoy, rfl⟩
  have hx1 := hox.1
  have hx2 := hox.2.1
  have hy1 := hoy.1
  have hy2 := hoy.2.1
  have OX := Lib.hid hox
  have OY := Lib.hid hoy
  clear hox hoy
  have hst := pasteList_start W H Wc Hc x y z1 z2 fx tx fy ty (by omega) OX.out OY.out
  rw [← HN1.out] at hst
  have HST := Lib.hid hst
  clear hst
  go_wp2_with fail
  go_loopw [17] (fun i wr => ∃ j : Nat, fy ≤ j ∧ j ≤ ty ∧ i = .int .i64 j ∧ wr.ownsRow w0.heap.size 4 1 (.slice (some ⟨gp, 0, none⟩) n1 cp) n1 (pasteList W n1 Wc Hc x y z1 z2 j fx) ∧ Below w0.heap.size w1 wr) (fun i _ => ty - (intOf i).toNat)
  case atStart => exact ⟨fy, Nat.le_refl _, hy1, rfl, by rw [HST.out]; exact HO.out, Below.refl _ _⟩
  case round =>
    obtain ⟨j, hj1, hj2, rfl, hownr, hbr⟩ := hrel
    have lq := LQ.out
    by_cases hltj : j < ty
    · obtain ⟨wo, rfl⟩ : ∃ wo : World, wo = wr := ⟨_, rfl⟩
      go_wp2_with fail
      go_loopw [18] (fun i wr => ∃ i' : Nat, fx ≤ i' ∧ i' ≤ tx ∧ i = .int .i64 i' ∧ wr.ownsRow w0.heap.size 4 1 (.slice (some ⟨gp, 0, none⟩) n1 cp) n1 (pasteList W n1 Wc Hc x y z1 z2 j i') ∧ Below w0.heap.size w1 wr) (fun i _ => tx - (intOf i).toNat)
      case atStart => exact ⟨fx, Nat.le_refl _, hx1, rfl, hownr, hbr⟩
      case round =>
        obtain ⟨i, hi1, hi2, rfl, howni, hbi⟩ := hrel
        clear hownr hbr
        have f0 := (hbi.cell (p := ⟨w.heap.size, 0, none⟩) (by simp; omega)).trans k0
        have f3 := (hbi.cell (p := ⟨w.heap.size + 1, 0, none⟩) (by simp; omega)).trans k3
        have f5 := (hbi.cell (p := ⟨w.heap.size + 1, 2, none⟩) (by simp; omega)).trans k5
        by_cases hlti : i < tx
        · obtain ⟨ia, ib, ic⟩ := OX.out.2.2.1 i hi1 hlti
          obtain ⟨ja, jb, jc⟩ := OY.out.2.2.1 j hj1 hltj
          obtain ⟨a, ha⟩ := Int.eq_ofNat_of_zero_le ib
          obtain ⟨b, hb⟩ := Int.eq_ofNat_of_zero_le jb
          have haW : a < W := by omega
          have hbH : b < H := by omega
          have hfit := row_fits hbH (show a + 1 ≤ W by omega)
          have hfit2 := row_fits ja (show i + 1 ≤ Wc by omega)
          rw [← HN1.out] at hfit
          rw [← HN2.out] at hfit2
          have hcw := HC2.out (j * Wc + i) (by omega)
          have hcl := World.block_lt_of_cell? _ _ hcw
          simp only at hcl
          have hcc : wr.cell? ⟨g2, o2 + (j * Wc + i), none⟩ = some (.bool (z2 (j * Wc + i))) := (hbi.cell (p := ⟨g2, o2 + (j * Wc + i), none⟩) (by have := B0.size; simp; omega)).trans (cell_later B1.out hcw)
          have hstep := pasteList_step W H Wc Hc x y z1 z2 j i a b (by omega) (by omega) (by omega) haW hbH ia ja
          rw [← HN1.out] at hstep
          have ht := howni.cellAt (b * W + a) (by omega)
          rw [List.getElem?_eq_getElem (by rw [howni.1]; omega)] at ht
          have hfz := howni.frozenAt (b * W + a)
          obtain ⟨t, hte⟩ : ∃ t, t = (pasteList W n1 Wc Hc x y z1 z2 j i)[b * W + a]'(by rw [howni.1]; omega) := ⟨_, rfl⟩
          rw [← hte] at ht
          obtain ⟨K, hK⟩ : ∃ K, K = b * W + a := ⟨_, rfl⟩
          rw [← hK] at ht hfz hstep
          have hKn : K < n1 := by omega
          have x0 : (0 : Int) ≤ (j : Int) * (Wc : Int) := Int.mul_nonneg (by omega) (by omega)
          have x1 : (j : Int) * (Wc : Int) + (i : Int) < (n2 : Int) := by rw [← Int.natCast_mul]; omega
          have x2 : (0 : Int) ≤ (b : Int) * (W : Int) := Int.mul_nonneg (by omega) (by omega)
          have x3 : (b : Int) * (W : Int) ≤ 16000000 := by
            have := Nat.mul_le_mul (show b ≤ 4000 by omega) (show W ≤ 4000 by omega)
            rw [← Int.natCast_mul]; omega
          have eb : y + (j : Int) = (b : Int) := by omega
          have eK : (b : Int) * (W : Int) + x + (i : Int) = (K : Int) := by
            have : ((b * W + a : Nat) : Int) = (b : Int) * (W : Int) + (a : Int) := by rw [Int.natCast_add, Int.natCast_mul]
            omega
          have xx : - 4000 ≤ x ∧ x ≤ 4000 := by omega
          have yy : - 4000 ≤ y ∧ y ≤ 4000 := by omega
          obtain ⟨xx0, xx1⟩ := xx
          obtain ⟨yy0, yy1⟩ := yy
          have HS := Lib.hid hstep
          have HOI := Lib.hid howni
          have HBI := Lib.hid hbi
          clear hte hcw hstep howni hbi hfit hfit2 ib jb ha hb hK
          by_cases hz : z2 (j * Wc + i) = true
          · have HZ := Lib.hid hz
            rw [hz] at hcc
            clear hz
            go_wp2_with fail
            go_roundw
            case rel =>
              refine ⟨i + 1, by omega, by omega, by go_num, ?_, HBI.out.setCell hgp.out _⟩
              rw [HS.out, if_pos HZ.out]
              exact (HOI.out.stored K (.bool true)).1
            case measure => simp [intOf]; omega
          · have hz' : z2 (j * Wc + i) = false := by simpa using hz
            have HZ := Lib.hid hz
            rw [hz'] at hcc
            clear hz hz'
            go_wp2_with fail
            go_roundw
            case rel => exact ⟨i + 1, by omega, by omega, by go_num, by rw [HS.out, if_neg HZ.out]; exact HOI.out, HBI.out⟩
            case measure => simp [intOf]; omega
        · have hie := Lib.hid (show i = tx by omega)
          have hrow := pasteList_row W H Wc Hc x y z1 z2 fx tx j (by omega) OX.out
          rw [← HN1.out] at hrow
          have HR := Lib.hid hrow
          clear hrow
          go_wp2_with fail
          go_roundw
          case rel => exact ⟨j + 1, by omega, by omega, by go_num, by rw [← HR.out, ← hie.out]; exact howni, hbi⟩
          case measure => simp [intOf]; omega
    · have hje := Lib.hid (show j = ty by omega)
      have f0 := (hbr.cell (p := ⟨w.heap.size, 0, none⟩) (by simp; omega)).trans k0
      have f1 := (hbr.cell (p := ⟨w.heap.size, 1, none⟩) (by simp; omega)).trans k1
      have hblk : wr.heap[w.heap.size + 1 + 1]? = some (.cells #[.int .i64 0, .int .i64 0, .slice none 0 0] 40 (0, 0)) := (hbr.block _ lq).trans (below_block Bq.out qb)
      obtain ⟨j0, j1, j2, r0, r1, r2⟩ := block3 hblk
      have HBR := Lib.hid hbr
      have HOR := Lib.hid hownr
      clear hbr hownr hblk
      go_wp2_with fail
      refine bodyPost_ret (v := .tuple #[.agg #[.int .i64 W, .int .i64 H, .slice (some ⟨gp, 0, none⟩) n1 cp], .int .i64 0]) (by simp [results, Try.results26, go_sem, j0, j1, j2]) rfl ⟨gp, cp, rfl, ?_, fun k hk => ?_, ?_⟩
      · have := hgp.out; have := B0.size; omega
      · refine cell_far3 (show gp ≠ w.heap.size + 1 + 1 by have := hgp.out; omega) ?_
        rw [Nat.zero_add, HOR.out.cellAt k (by omega), hje.out]
        have he := pasteList_end W H Wc Hc x y z1 z2 fx fy ty (by omega) OY.out k (by rw [← HN1.out]; exact hk)
        simp [pasteList, List.getElem?_range hk, he]
      · exact below_far3 ((B1.out).trans (HBR.out.mono (by have := B0.size; omega))) (by omega)

end Go.Proofs.Ytofcojcfcpfdmaa
namespace Go.Proofs.Ytofcojcfcpfdmaa
open Go.RowKit
set_option linter.unusedSimpArgs false
set_option linter.unusedVariables false

theorem small_any (a b : Int) (w : World) (h : sizeErr a b = 0) : Calls Try.prog 33 #[.int .i64 a, .int .i64 b] w fun e w' => ∃ q, e = .returned (.bool q) ∧ w = w' := by
  obtain ⟨_, z0, z1⟩ := sizeErr_zero h
  have hw : wrap64 (a * b) = a * b := by unfold wrap64; omega
  clear h
  by_cases h1 : a ≤ 200
  · by_cases h2 : b ≤ 200
    · go_enter Try.func33, Try.ntmps33
      go_wp2_with ((go_at_call 43; refine (in_yes _ _ _ _ (by omega)).mono ?_; rintro e w' ⟨rfl, rfl⟩))
      go_ret
      exact ⟨_, rfl, rfl⟩
    · go_enter Try.func33, Try.ntmps33
      go_wp2_with (first | (go_at_call 43; refine (in_yes _ _ _ _ (by omega)).mono ?_; rintro e w' ⟨rfl, rfl⟩) | (go_at_call 43; refine (in_no _ _ _ _ (by omega)).mono ?_; rintro e w' ⟨rfl, rfl⟩))
      go_ret
      exact ⟨_, rfl, rfl⟩
  · go_enter Try.func33, Try.ntmps33
    go_wp2_with (first | (go_at_call 43; refine (in_no _ _ _ _ (by omega)).mono ?_; rintro e w' ⟨rfl, rfl⟩))
    go_ret
    exact ⟨_, rfl, rfl⟩

/-- What a halved page is, in memory: nothing with an error; else the means. -/
def HalveIs (a b : Int) (n : Nat) (z : Nat → Int) (B : Nat) (w : World) (i j : Int) (sl : Option Addr) (n' c' : Nat) : Prop :=
  (pageErr a b n ≠ 0 ∧ i = 0 ∧ j = 0 ∧ sl = none ∧ n' = 0 ∧ c' = 0) ∨
  (pageErr a b n = 0 ∧ i = (((a.toNat + 1) / 2 : Nat) : Int) ∧ j = (((b.toNat + 1) / 2 : Nat) : Int) ∧ n' = (a.toNat + 1) / 2 * ((b.toNat + 1) / 2) ∧ ∃ g, B ≤ g ∧ sl = some ⟨g, 0, none⟩ ∧ ∀ k, k < n' → w.cell? ⟨g, 0 + k, none⟩ = some (.int .u8 (mean4 z a.toNat b.toNat (k % ((a.toNat + 1) / 2)) (k / ((a.toNat + 1) / 2)))))

theorem HalveIs.later {a b : Int} {n : Nat} {z : Nat → Int} {B : Nat} {w w' : World} {i j : Int} {sl : Option Addr} {n' c' : Nat} (h : HalveIs a b n z B w i j sl n' c') (hb : Below w.heap.size w w') : HalveIs a b n z B w' i j sl n' c' := by
  rcases h with h | ⟨h1, h2, h3, h4, g, h5, h6, h7⟩
  · exact .inl h
  · exact .inr ⟨h1, h2, h3, h4, g, h5, h6, fun k hk => cell_later hb (h7 k hk)⟩

/-- The error of pasting. -/
def pasteErr (a1 b1 : Int) (n1 : Nat) (a2 b2 : Int) (n2 : Nat) : Int := orI (pageErr a1 b1 n1) (pageErr a2 b2 n2)

/-- What a pasted page is, in memory. -/
def PasteIs (a1 b1 : Int) (n1 : Nat) (a2 b2 : Int) (n2 : Nat) (x y : Int) (z1 z2 : Nat → Bool) (B : Nat) (w : World) (i j : Int) (sl : Option Addr) (n' c' : Nat) : Prop :=
  (pasteErr a1 b1 n1 a2 b2 n2 ≠ 0 ∧ i = 0 ∧ j = 0 ∧ sl = none ∧ n' = 0 ∧ c' = 0) ∨
  (pasteErr a1 b1 n1 a2 b2 n2 = 0 ∧ i = a1 ∧ j = b1 ∧ n' = n1 ∧ ∃ g, B ≤ g ∧ sl = some ⟨g, 0, none⟩ ∧ ∀ k, k < n' → w.cell? ⟨g, 0 + k, none⟩ = some (.bool (pasteAt a1.toNat a2.toNat b2.toNat x y z1 z2 (k % a1.toNat) (k / a1.toNat))))

theorem PasteIs.later {a1 b1 : Int} {n1 : Nat} {a2 b2 : Int} {n2 : Nat} {x y : Int} {z1 z2 : Nat → Bool} {B : Nat} {w w' : World} {i j : Int} {sl : Option Addr} {n' c' : Nat} (h : PasteIs a1 b1 n1 a2 b2 n2 x y z1 z2 B w i j sl n' c') (hb : Below w.heap.size w w') : PasteIs a1 b1 n1 a2 b2 n2 x y z1 z2 B w' i j sl n' c' := by
  rcases h with h | ⟨h1, h2, h3, h4, g, h5, h6, h7⟩
  · exact .inl h
  · exact .inr ⟨h1, h2, h3, h4, g, h5, h6, fun k hk => cell_later hb (h7 k hk)⟩

end Go.Proofs.Ytofcojcfcpfdmaa
namespace Go.Proofs.Ytofcojcfcpfdmaa
open Go.RowKit
set_option linter.unusedSimpArgs false
set_option linter.unusedVariables false

theorem one_score : sqSum (profV (inkQ (fun _ => true) 1) 1 1 0) (2 * 1) = 1 := by decide

theorem skews_any (w : World) : Calls Try.prog 32 #[] w fun e w' => e = .returned (.bool true) ∧ Below w.heap.size w w' := by
  have hcell : ∀ j, j < 1 * 1 → (w.alloc (.cells #[.bool true] 4)).cell? ⟨w.heap.size, 0 + j, none⟩ = some (.bool ((fun _ => true) j)) := fun j hj => by
    have : j = 0 := by omega
    subst this
    go_simp
  have HS := Lib.hid (score_ok 1 1 w.heap.size 0 1 0 (fun _ => true) (w.alloc (.cells #[.bool true] 4)) (by decide) (by omega) hcell)
  clear hcell
  rw [one_score] at HS
  go_enter Try.func32, Try.ntmps32
  go_wp2_with fail
  refine HS.out.mono ?_
  rintro e w2 ⟨rfl, hb2⟩
  have G := Lib.hid (below_step (new_below w _) hb2)
  clear hb2
  go_wp2_with fail
  go_ret
  exact ⟨rfl, G.out⟩

end Go.Proofs.Ytofcojcfcpfdmaa
namespace Go.Proofs.Ytofcojcfcpfdmaa
open Go.RowKit
set_option linter.unusedSimpArgs false
set_option linter.unusedVariables false

set_option maxHeartbeats 800000 in
theorem inkCounts_ok (W H g o c : Nat) (z : Nat → Bool) (w : World) (hs : sizeErr W H = 0) (hp : ∀ j, j < W * H → w.cell? ⟨g, o + j, none⟩ = some (.bool (z j))) :
    Calls Try.prog 93 #[.agg #[.int .i64 W, .int .i64 H, .slice (some ⟨g, o, none⟩) (W * H) c]] w fun e w' =>
      ∃ rg rc cg cc, e = .returned (.tuple #[.slice (some ⟨rg, 0, none⟩) H rc, .slice (some ⟨cg, 0, none⟩) W cc, .int .i64 0]) ∧
        (∀ k, k < H → w'.cell? ⟨rg, 0 + k, none⟩ = some (.int .i64 ((inkB z W 0 k W 1 : Nat) : Int))) ∧ (∀ k, k < W → w'.cell? ⟨cg, 0 + k, none⟩ = some (.int .i64 ((inkB z W k 0 1 H : Nat) : Int))) ∧ Below w.heap.size w w' := by
  obtain ⟨⟨a1, a2, a3, a4⟩, _, _⟩ := sizeErr_zero hs
  have HC := Lib.hid hp
  have HS := Lib.hid hs
  clear hp hs
  go_enter Try.func93, Try.ntmps93
  go_wp2_with fail
  obtain ⟨w1, hw1⟩ : ∃ w1, w1 = w.alloc (.cells #[.int .i64 W, .int .i64 H, .slice (some ⟨g, o, none⟩) (W * H) c] 40) := ⟨_, rfl⟩
  have B1 : Below w.heap.size w w1 := by rw [hw1]; exact new_below _ _
  have q1 : w1.heap[w.heap.size]? = some (.cells #[.int .i64 W, .int .i64 H, .slice (some ⟨g, o, none⟩) (W * H) c] 40 (0, 0)) := by rw [hw1]; exact heap_alloc_new _ _
  rw [← hw1]
  clear hw1
  refine (rows_ok W H g o c z w1 HS.out (fun j hj => cell_later B1 (HC.out j hj))).mono ?_
  rintro e w2 ⟨v, rfl, hown, hb2⟩
  obtain ⟨rg, rc, rfl, _, hr⟩ := owns_nums hown (by omega)
  have B2 := Lib.hid (below_step B1 hb2)
  obtain ⟨p0, p1, p2, _, _, _⟩ := block3 (below_block hb2 q1)
  have HR := Lib.hid hr
  clear hb2 hr hown q1 B1
  go_wp2_with fail
  refine (columns_ok W H g o c z w2 HS.out (fun j hj => cell_later B2.out (HC.out j hj))).mono ?_
  rintro e w3 ⟨v, rfl, hown, hb3⟩
  obtain ⟨cg, cc, rfl, _, hr⟩ := owns_nums hown (by omega)
  have B3 := Lib.hid (below_step B2.out hb3)
  have HR3 := Lib.hid (fun j hj => cell_later hb3 (HR.out j hj))
  have HCC := Lib.hid hr
  clear hb3 hr hown p0 p1 p2
  go_wp2_with fail
  exact bodyPost_ret (v := .tuple #[.slice (some ⟨rg, 0, none⟩) H rc, .slice (some ⟨cg, 0, none⟩) W cc, .int .i64 0]) (by simp [results, Try.results93, go_sem]) rfl ⟨_, _, _, _, rfl, HR3.out, HCC.out, B3.out⟩

end Go.Proofs.Ytofcojcfcpfdmaa
namespace Go.Proofs.Ytofcojcfcpfdmaa
open Go.RowKit
set_option linter.unusedSimpArgs false
set_option linter.unusedVariables false

/-- What a page is that was made by places, in memory: nothing with an error; else its places. -/
def PageIs (E : Int) (a b : Int) (f : Nat → Nat → Bool) (B : Nat) (w : World) (i j : Int) (sl : Option Addr) (n' c' : Nat) : Prop :=
  (E ≠ 0 ∧ i = 0 ∧ j = 0 ∧ sl = none ∧ n' = 0 ∧ c' = 0) ∨
  (E = 0 ∧ i = a ∧ j = b ∧ n' = a.toNat * b.toNat ∧ ∃ g, B ≤ g ∧ sl = some ⟨g, 0, none⟩ ∧ ∀ k, k < n' → w.cell? ⟨g, 0 + k, none⟩ = some (.bool (f (k % a.toNat) (k / a.toNat))))

theorem PageIs.later {E a b : Int} {f : Nat → Nat → Bool} {B : Nat} {w w' : World} {i j : Int} {sl : Option Addr} {n' c' : Nat} (h : PageIs E a b f B w i j sl n' c') (hb : Below w.heap.size w w') : PageIs E a b f B w' i j sl n' c' := by
  rcases h with h | ⟨h1, h2, h3, h4, g, h5, h6, h7⟩
  · exact .inl h
  · exact .inr ⟨h1, h2, h3, h4, g, h5, h6, fun k hk => cell_later hb (h7 k hk)⟩
theorem row_prod {W H y : Nat} (hW : W ≤ 4000) (hH : H ≤ 4000) (hy : y < H) : y * W ≤ 16000000 ∧ y * W + W ≤ H * W := by
  have h1 := Nat.mul_le_mul (show y ≤ 4000 by omega) hW
  have h2 := Nat.mul_le_mul_right W (show y + 1 ≤ H by omega)
  rw [Nat.add_mul, Nat.one_mul] at h2
  exact ⟨h1, h2⟩

end Go.Proofs.Ytofcojcfcpfdmaa
namespace Go.Proofs.Ytofcojcfcpfdmaa
open Go.RowKit
set_option linter.unusedSimpArgs false
set_option linter.unusedVariables false

/-- What a page is that was made by places, in memory: nothing with an error; else its places. -/
def PageIsY (E : Int) (a b : Int) (f : Nat → Nat → Int) (B : Nat) (w : World) (i j : Int) (sl : Option Addr) (n' c' : Nat) : Prop :=
  (E ≠ 0 ∧ i = 0 ∧ j = 0 ∧ sl = none ∧ n' = 0 ∧ c' = 0) ∨
  (E = 0 ∧ i = a ∧ j = b ∧ n' = a.toNat * b.toNat ∧ ∃ g, B ≤ g ∧ sl = some ⟨g, 0, none⟩ ∧ ∀ k, k < n' → w.cell? ⟨g, 0 + k, none⟩ = some (.int .u8 (f (k % a.toNat) (k / a.toNat))))

theorem PageIsY.later {E a b : Int} {f : Nat → Nat → Int} {B : Nat} {w w' : World} {i j : Int} {sl : Option Addr} {n' c' : Nat} (h : PageIsY E a b f B w i j sl n' c') (hb : Below w.heap.size w w') : PageIsY E a b f B w' i j sl n' c' := by
  rcases h with h | ⟨h1, h2, h3, h4, g, h5, h6, h7⟩
  · exact .inl h
  · exact .inr ⟨h1, h2, h3, h4, g, h5, h6, fun k hk => cell_later hb (h7 k hk)⟩
end Go.Proofs.Ytofcojcfcpfdmaa
namespace Go.Proofs.Ytofcojcfcpfdmaa
open Go.RowKit
set_option linter.unusedSimpArgs false
set_option linter.unusedVariables false

end Go.Proofs.Ytofcojcfcpfdmaa

namespace Go.Proofs.Ytofcojcfcpfdmaa
open Go.RowKit
set_option linter.unusedSimpArgs false
set_option linter.unusedVariables false

set_option maxRecDepth 100000 in
theorem toBits1_any (W H x y pb lb g o n c t : Nat) (q lv : Int) (w : World) (hW : W ≤ 4000) (hH : H ≤ 4000) (hx : x < W) (hy : y < H) (hn : n = W * H) (ht : t = y * W + x) (hq : 0 ≤ q ∧ q ≤ 255)
    (c0 : w.cell? ⟨pb, 0, none⟩ = some (.int .i64 W)) (c2 : w.cell? ⟨pb, 2, none⟩ = some (.slice (some ⟨g, o, none⟩) n c)) (c3 : w.cell? ⟨lb, 0, none⟩ = some (.int .i64 lv)) (hc : w.cell? ⟨g, o + t, none⟩ = some (.int .u8 q)) :
    Calls Try.prog 120 #[.int .i64 x, .int .i64 y, .pointer (some ⟨pb, 0, none⟩), .pointer (some ⟨lb, 0, none⟩)] w fun e w' => e = .returned (.bool (decide (q < lv))) ∧ ∃ k, w' = w.drewN k := by
  obtain ⟨r1, r2⟩ := row_prod hW hH hy
  obtain ⟨P, hP⟩ : ∃ P, P = y * W := ⟨_, rfl⟩
  have e0 : IntKind.i64.wrap ((y : Int) * (W : Int)) = (P : Int) := by rw [← Int.natCast_mul, ← hP]; exact IntWalk.i64_in _ (by omega)
  rw [← hP] at r1 r2 ht
  have htn : (t : Int) < (n : Int) := by rw [hn, Nat.mul_comm W H]; omega
  have htn' : t < n := by omega
  have e1 : IntKind.i64.wrap ((P : Int) + (x : Int)) = (t : Int) := by rw [show (P : Int) + (x : Int) = (t : Int) by omega]; exact IntWalk.i64_in _ (by omega)
  have t0 : (0 : Int) ≤ (t : Int) := by omega
  have e2 : IntKind.i64.wrap q = q := IntWalk.i64_in _ (by omega)
  clear hP ht hn r2
  go_enter Try.func120, Try.ntmps120
  go_wp2_with fail
  go_quiet (fail)
  go_wp2_with fail
  go_ret
  exact ⟨rfl, _, rfl⟩

end Go.Proofs.Ytofcojcfcpfdmaa
namespace Go.Proofs.Ytofcojcfcpfdmaa
open Go.RowKit
set_option linter.unusedSimpArgs false
set_option linter.unusedVariables false

set_option maxHeartbeats 400000 in
set_option maxRecDepth 100000 in
theorem toBits_ok (W H g o c : Nat) (lv : Int) (z : Nat → Int) (w : World) (he : sizeErr W H = 0) (hl : 0 ≤ lv ∧ lv ≤ 256) (hzb : ∀ j, 0 ≤ z j ∧ z j ≤ 255)
    (hp : ∀ j, j < W * H → w.cell? ⟨g, o + j, none⟩ = some (.int .u8 (z j))) :
    Calls Try.prog 92 #[.agg #[.int .i64 W, .int .i64 H, .slice (some ⟨g, o, none⟩) (W * H) c], .int .i64 lv] w fun e w' =>
      ∃ v, e = .returned (.tuple #[.agg #[.int .i64 W, .int .i64 H, v], .int .i64 0]) ∧ w'.ownsRow w.heap.size 4 1 v (W * H) ((places W (fun x y => decide (z (y * W + x) < lv)) (W * H)).map Value.bool) ∧ Below w.heap.size w w' := by
  have hmf : ∀ (fn : Fn) (first cap : Array Value) (w : World), (Instr.makeFunc fn first cap).run Try.prog w = .ok (.func fn first cap) w := fun _ _ _ _ => rfl
  obtain ⟨⟨a1, a2, a3, a4⟩, z0, z1⟩ := sizeErr_zero he
  have hN : W * H ≤ 1048576 := by rw [← Int.natCast_mul] at z1; omega
  have hpe : pageErr W H (W * H) = 0 := by unfold pageErr; rw [if_pos he, if_pos (by simp [Int.natCast_mul])]
  obtain ⟨w1, hw1⟩ : ∃ w1, w1 = ((((w.alloc (.cells #[.int .i64 W, .int .i64 H, .slice (some ⟨g, o, none⟩) (W * H) c] 24)).alloc (.cells #[.int .i64 lv] 3)).alloc (.cells #[.int .i64 0, .int .i64 0, .slice none 0 0] 40)).alloc (.cells #[.int .i64 W, .int .i64 H, .slice (some ⟨g, o, none⟩) (W * H) c] 24)) := ⟨_, rfl⟩
  have B1 : Below w.heap.size w w1 := by rw [hw1]; exact below_alloc (below_alloc (below_alloc (new_below _ _) _) _) _
  have q0 : w1.cell? ⟨w.heap.size, 0, none⟩ = some (.int .i64 W) := by rw [hw1]; go_simp
  have q1 : w1.cell? ⟨w.heap.size, 1, none⟩ = some (.int .i64 H) := by rw [hw1]; go_simp
  have q2 : w1.cell? ⟨w.heap.size, 2, none⟩ = some (.slice (some ⟨g, o, none⟩) (W * H) c) := by rw [hw1]; go_simp
  have q3 : w1.cell? ⟨w.heap.size + 1, 0, none⟩ = some (.int .i64 lv) := by rw [hw1]; go_simp
  have qb : w1.heap[w.heap.size + 1 + 1]? = some (.cells #[.int .i64 0, .int .i64 0, .slice none 0 0] 40 (0, 0)) := by
    rw [hw1, Below.heap_alloc _ _ _ (by simp)]
    simpa using heap_alloc_new ((w.alloc (.cells #[.int .i64 W, .int .i64 H, .slice (some ⟨g, o, none⟩) (W * H) c] 24)).alloc (.cells #[.int .i64 lv] 3)) (.cells #[.int .i64 0, .int .i64 0, .slice none 0 0] 40)
  have HL1 := Lib.hid hl
  have HC := Lib.hid hp
  have HZ := Lib.hid hzb
  clear hp he z0 z1 hzb
  go_enter Try.func92, Try.ntmps92
  go_wp2_with (first | (go_at_call 55; refine (checkGray_any _ _ _ _ _ _).mono ?_; rintro e w' ⟨rfl, rfl⟩) | (go_at_call 56; refine (outside_no _ _ _ _ HL1.out).mono ?_; rintro e w' ⟨rfl, rfl⟩))
  rw [← hw1]
  clear hw1
  have lt1 := (Array.getElem?_eq_some_iff.1 qb).1
  refine (fillBool_any W H 120 _ (fun x y => decide (z (y * W + x) < lv)) w1 (by omega) (by omega) (by omega) (by omega) (Go.Proofs.enters_of Try.func120 (by kernel_rfl) rfl) ?_).mono ?_
  · intro x y wx hx hy hbx
    have hfit := row_fits hy (show x + 1 ≤ W by omega)
    refine (toBits1_any W H x y w.heap.size (w.heap.size + 1) g o (W * H) c _ _ lv wx (by omega) (by omega) hx hy rfl rfl (HZ.out _) (cell_later hbx q0) (cell_later hbx q2) (cell_later hbx q3) (cell_later hbx (cell_later B1 (HC.out _ (by omega))))).mono ?_
    rintro e wy ⟨rfl, k, rfl⟩
    exact ⟨rfl, below_drewN (Below.refl _ _) k⟩
  · rintro e w5 ⟨v, rfl, hown, hb5⟩
    obtain ⟨j0, j1, j2, r0, r1, r2⟩ := block3 (below_block hb5 qb)
    obtain ⟨va, vn, vc, rfl⟩ := owns_shape hown
    have k0 := cell_later hb5 q0
    have k1 := cell_later hb5 q1
    have F := Lib.hid hown
    have G := Lib.hid hb5
    have L := Lib.hid lt1
    clear hown hb5 lt1 q0 q1 q2 q3
    go_wp2_with fail
    refine bodyPost_ret (v := .tuple #[.agg #[.int .i64 W, .int .i64 H, .slice va vn vc], .int .i64 0]) (by simp [results, Try.results92, go_sem, j0, j1, j2]) rfl ⟨_, rfl, owns_far3 F.out L.out B1.size, below_far3 (below_step B1 G.out) (by omega)⟩

end Go.Proofs.Ytofcojcfcpfdmaa
namespace Go.Proofs.Ytofcojcfcpfdmaa
open Go.RowKit
set_option linter.unusedSimpArgs false
set_option linter.unusedVariables false

/-- What is left of a list when ground is taken away at both ends. -/
def WithinIs (f : Nat → Nat) (gr : Nat → Bool) (n a b : Nat) : Prop :=
  (a ≤ b ∧ b ≤ n) ∧ (∀ k, k < a → gr (f k) = true) ∧ (∀ k, b ≤ k → k < n → gr (f k) = true) ∧ (a < b → gr (f a) = false ∧ gr (f (b - 1)) = false)

theorem within_uniq {f : Nat → Nat} {gr : Nat → Bool} {n a b a' b' : Nat} (h : WithinIs f gr n a b) (h' : WithinIs f gr n a' b') (hlt : a < b) : a = a' ∧ b = b' := by
  obtain ⟨⟨h1, h2⟩, h3, h4, h5⟩ := h
  obtain ⟨⟨k1, k2⟩, k3, k4, k5⟩ := h'
  obtain ⟨e1, e2⟩ := h5 hlt
  have ff : ∀ q : Bool, q = false → q = true → False := by intro q h k; rw [h] at k; cases k
  have l1 : a' ≤ a := Nat.le_of_not_lt fun h => ff _ e1 (k3 a h)
  have l2 : b ≤ b' := Nat.le_of_not_lt fun h => ff _ e2 (k4 (b - 1) (by omega) (by omega))
  obtain ⟨g1, g2⟩ := k5 (by omega)
  have l3 : a ≤ a' := Nat.le_of_not_lt fun h => ff _ g1 (h3 a' h)
  have l4 : b' ≤ b := Nat.le_of_not_lt fun h => ff _ g2 (h4 (b' - 1) (by omega) (by omega))
  omega
theorem within_empty {f : Nat → Nat} {gr : Nat → Bool} {n a b a' b' : Nat} (h : WithinIs f gr n a b) (h' : WithinIs f gr n a' b') : a = b ↔ a' = b' := by
  constructor
  · intro e
    rcases Nat.lt_or_eq_of_le h'.1.1 with hlt | hlt
    · have := within_uniq h' h hlt; omega
    · exact hlt
  · intro e
    rcases Nat.lt_or_eq_of_le h.1.1 with hlt | hlt
    · have := within_uniq h h' hlt; omega
    · exact hlt

set_option maxHeartbeats 800000 in
theorem within_any (n g c clo : Nat) (capt : Array Value) (f : Nat → Nat) (gr : Nat → Bool) (w : World) (hn : n ≤ 4000) (hf : ∀ k, f k ≤ 4000) (hc : ∀ k, k < n → w.cell? ⟨g, 0 + k, none⟩ = some (.int .i64 ((f k : Nat) : Int)))
    (eg : ∀ (args : Array Value) (W : World), (callFunc clo args).run Try.prog W = .ok (.enter clo args) W)
    (hcl : ∀ x : Nat, x ≤ 4000 → Calls Try.prog clo (#[.int .i64 x] ++ capt) w fun e w' => e = .returned (.bool (gr x)) ∧ w = w') :
    Calls Try.prog 94 #[.slice (some ⟨g, 0, none⟩) n c, .func (.func clo) #[] capt] w fun e w' => ∃ a b : Nat, e = .returned (.tuple #[.int .i64 a, .int .i64 b]) ∧ WithinIs f gr n a b ∧ w = w' := by
  have HC := Lib.hid hc
  have HF := Lib.hid hf
  have HCL := Lib.hid hcl
  clear hc hf hcl
  go_enter Try.func94, Try.ntmps94
  go_wp2_with fail
  go_loop [4] (fun i => ∃ k : Nat, k ≤ n ∧ i = .int .i64 k ∧ Hid (∀ j, j < k → gr (f j) = true)) (fun i => n - (intOf i).toNat)
  case atStart => exact ⟨0, Nat.zero_le _, rfl, Lib.hid (fun j hj => by omega)⟩
  case round =>
    obtain ⟨k, hk, rfl, H0⟩ := hrel
    by_cases hlt : k < n
    · have hx := HC.out k hlt
      obtain ⟨x, hxe⟩ : ∃ x, x = f k := ⟨_, rfl⟩
      rw [← hxe] at hx
      have hx4 := HF.out k
      have HX := Lib.hid hxe
      rw [← hxe] at hx4
      rw [Nat.zero_add] at hx
      have CL := Lib.hid (HCL.out x hx4)
      have i1 : (k : Int) < (n : Int) := by omega
      have i0 : (0 : Int) ≤ (k : Int) := by omega
      clear hxe hx4
      cases hq : gr x
      · rw [hq] at CL
        have HQ := Lib.hid (show gr (f k) = false by rw [← HX.out]; exact hq)
        clear hq
        go_wp2_with fail
        refine CL.out.mono ?_
        rintro e w1 ⟨rfl, rfl⟩
        clear hx
        go_wp2_with fail
        go_loop [5] (fun i => ∃ b : Nat, k < b ∧ b ≤ n ∧ i = .int .i64 b ∧ Hid (∀ j, b ≤ j → j < n → gr (f j) = true)) (fun i => (intOf i).toNat)
        case atStart => exact ⟨n, hlt, Nat.le_refl _, rfl, Lib.hid (fun j h1 h2 => by omega)⟩
        case round =>
          obtain ⟨b, hb1, hb2, rfl, HB⟩ := hrel
          have hx := HC.out (b - 1) (by omega)
          obtain ⟨y, hye⟩ : ∃ y, y = f (b - 1) := ⟨_, rfl⟩
          rw [← hye] at hx
          have hy4 := HF.out (b - 1)
          have HY := Lib.hid hye
          rw [← hye] at hy4
          obtain ⟨m, hm⟩ : ∃ m, m = b - 1 := ⟨_, rfl⟩
          rw [← hm, Nat.zero_add] at hx
          have em : (b : Int) - 1 = (m : Int) := by omega
          have i2 : (k : Int) < (b : Int) := by omega
          have i3 : (m : Int) < (n : Int) := by omega
          have HM := Lib.hid hm
          have CY := Lib.hid (HCL.out y hy4)
          clear hye hy4 hm CL
          cases hq2 : gr y
          · rw [hq2] at CY
            have HQ2 := Lib.hid (show gr (f (b - 1)) = false by rw [← HY.out]; exact hq2)
            clear hq2
            go_wp2_with fail
            refine CY.out.mono ?_
            rintro e w1 ⟨rfl, rfl⟩
            go_wp2_with fail
            go_ret2
            exact ⟨k, b, rfl, ⟨⟨by omega, hb2⟩, H0.out, HB.out, fun _ => ⟨HQ.out, HQ2.out⟩⟩, rfl⟩
          · rw [hq2] at CY
            have HQ2 := Lib.hid (show gr (f (b - 1)) = true by rw [← HY.out]; exact hq2)
            clear hq2
            go_wp2_with fail
            refine CY.out.mono ?_
            rintro e w1 ⟨rfl, rfl⟩
            go_wp2_with fail
            have hne : k ≠ b - 1 := fun e => by have h1 := HQ.out; rw [e, HQ2.out] at h1; cases h1
            go_round
            case rel => exact ⟨b - 1, by omega, by omega, by rw [← HM.out], Lib.hid (fun j h1 h2 => by
              by_cases e : j = b - 1
              · rw [e]; exact HQ2.out
              · exact HB.out j (by omega) h2)⟩
            case measure => simp [intOf]; omega
      · rw [hq] at CL
        have HQ := Lib.hid (show gr (f k) = true by rw [← HX.out]; exact hq)
        clear hq
        go_wp2_with fail
        refine CL.out.mono ?_
        rintro e w1 ⟨rfl, rfl⟩
        go_wp2_with fail
        go_round
        case rel => exact ⟨k + 1, by omega, by go_num, Lib.hid (fun j hj => by
          by_cases e : j = k
          · rw [e]; exact HQ.out
          · exact H0.out j (by omega))⟩
        case measure => simp [intOf]; omega
    · obtain rfl : k = n := by omega
      go_wp2_with fail
      go_loop [5] (fun i => i = .int .i64 k) (fun _ => 0)
      case atStart => exact rfl
      case round =>
        subst hrel
        go_wp2_with fail
        go_ret2
        exact ⟨k, k, rfl, ⟨⟨Nat.le_refl _, Nat.le_refl _⟩, H0.out, fun j h1 h2 => by omega, fun h => by omega⟩, rfl⟩

theorem halfDown_any (n : Int) (w : World) (h : -10000 ≤ n ∧ n ≤ 10000) : Calls Try.prog 103 #[.int .i64 n] w fun e w' => e = .returned (.int .i64 (n / 2)) ∧ w = w' := by
  obtain ⟨h1, h2⟩ := h
  go_enter Try.func103, Try.ntmps103
  go_wp2_with fail
  go_ret
  exact ⟨rfl, rfl⟩

theorem tdiv2_neg {n : Int} (h : n < 0) : n.tdiv 2 = -((-n) / 2) := by
  obtain ⟨m, hm⟩ : ∃ m, m = -n := ⟨_, rfl⟩
  obtain rfl : n = -m := by omega
  rw [Int.neg_tdiv, Int.neg_neg, Int.tdiv_eq_ediv_of_nonneg (by omega)]

set_option maxHeartbeats 400000 in
theorem down2_any (n : Int) (w : World) (h : -10000 ≤ n ∧ n ≤ 10000) : Calls Try.prog 91 #[.int .i64 n, .int .i64 2] w fun e w' => e = .returned (.int .i64 (n / 2)) ∧ w = w' := by
  obtain ⟨h1, h2⟩ := h
  by_cases h0 : 0 ≤ n
  · exact down_any n 2 w h0 (by omega) (by omega) (by omega)
  · obtain ⟨q, hq⟩ : ∃ q, q = n / 2 := ⟨_, rfl⟩
    rw [← hq]
    have hn0 : n < 0 := by omega
    have ht0 := tdiv2_neg hn0
    have q1 : -10000 ≤ q := by omega
    have q2 : q ≤ 10000 := by omega
    have HQ := Lib.hid hq
    have HT := Lib.hid ht0
    clear ht0
    go_enter Try.func91, Try.ntmps91
    go_wp2_with fail
    have ht := HT.out
    clear HT
    generalize n.tdiv 2 = t at ht ⊢
    have t0 : t = q ∨ t = q + 1 := by omega
    rcases t0 with rfl | rfl
    · have i1 : ¬ n < t * 2 := by omega
      clear hq h0 ht
      refine wp_loop_rounds 1 ?_
      rw [rounds_succ]
      go_wp2
      go_ret
      exact ⟨rfl, rfl⟩
    · have i1 : n < (q + 1) * 2 := by omega
      have i2 : ¬ n < q * 2 := by omega
      have i3 : q + 1 - 1 = q := by omega
      clear hq h0 ht
      refine wp_loop_rounds 2 ?_
      rw [rounds_succ]
      go_wp2
      rw [rounds_succ]
      go_wp2
      go_ret
      exact ⟨rfl, rfl⟩

end Go.Proofs.Ytofcojcfcpfdmaa
namespace Go.Proofs.Ytofcojcfcpfdmaa
open Go.RowKit
set_option linter.unusedSimpArgs false
set_option linter.unusedVariables false

/-- Whether a row or a column with so much that is dark belongs to the ground. -/
def grd (P x : Nat) : Bool := decide ((P : Int) ≤ (x : Int) * 1000)

theorem sheet1_any (x p W P pb gb : Nat) (w : World) (hx : x ≤ 4000) (hp : p ≤ 1000) (hW : W ≤ 4000) (hP : P = p * W) (h0 : w.cell? ⟨pb, 0, none⟩ = some (.int .i64 p)) (h1 : w.cell? ⟨gb, 0, none⟩ = some (.int .i64 W)) :
    Calls Try.prog 95 #[.int .i64 x, .pointer (some ⟨pb, 0, none⟩), .pointer (some ⟨gb, 0, none⟩)] w fun e w' => e = .returned (.bool (grd P x)) ∧ w = w' := by
  have e1 : (p : Int) * (W : Int) = (P : Int) := by rw [hP, Int.natCast_mul]
  have e2 : P ≤ 1000 * 4000 := by rw [hP]; exact Nat.mul_le_mul hp hW
  clear hP
  go_enter Try.func95, Try.ntmps95
  go_wp2_with fail
  go_ret
  exact ⟨rfl, rfl⟩
theorem sheet2_any (x p H P pb gb : Nat) (w : World) (hx : x ≤ 4000) (hp : p ≤ 1000) (hH : H ≤ 4000) (hP : P = p * H) (h0 : w.cell? ⟨pb, 0, none⟩ = some (.int .i64 p)) (h1 : w.cell? ⟨gb, 1, none⟩ = some (.int .i64 H)) :
    Calls Try.prog 96 #[.int .i64 x, .pointer (some ⟨pb, 0, none⟩), .pointer (some ⟨gb, 0, none⟩)] w fun e w' => e = .returned (.bool (grd P x)) ∧ w = w' := by
  have e1 : (p : Int) * (H : Int) = (P : Int) := by rw [hP, Int.natCast_mul]
  have e2 : P ≤ 1000 * 4000 := by rw [hP]; exact Nat.mul_le_mul hp hH
  clear hP
  go_enter Try.func96, Try.ntmps96
  go_wp2_with fail
  go_ret
  exact ⟨rfl, rfl⟩

/-- The error of Sheet, but for a page without a sheet. -/
def shErr (E lv p : Int) : Int := if E = 0 then (if (0 ≤ lv ∧ lv ≤ 256) ∧ (1 ≤ p ∧ p ≤ 1000) then 0 else 3) else E

theorem below_far4 {w a : World} {B b : Nat} {x y z u : Value} (h : Below B w a) (hb : B ≤ b) : Below B w ((((a.setCell ⟨b, 0, none⟩ x).setCell ⟨b, 1, none⟩ y).setCell ⟨b, 2, none⟩ z).setCell ⟨b, 3, none⟩ u) :=
  (((h.setCell hb _).setCell hb _).setCell hb _).setCell hb _

set_option maxHeartbeats 800000 in
set_option maxRecDepth 100000 in
theorem sheet_bad (a b lv p : Int) (s : Option Addr) (n c : Nat) (w : World) (h : shErr (pageErr a b n) lv p ≠ 0) :
    Calls Try.prog 41 #[.agg #[.int .i64 a, .int .i64 b, .slice s n c], .int .i64 lv, .int .i64 p] w fun e w' => e = .returned (.tuple #[.agg #[.int .i64 0, .int .i64 0, .int .i64 0, .int .i64 0], .int .i64 (shErr (pageErr a b n) lv p)]) ∧ Below w.heap.size w w' := by
  by_cases hE : pageErr a b n = 0
  · have t1 : (pageErr a b n != 0) = false := by simpa using hE
    have hE2 : shErr (pageErr a b n) lv p = 3 := by
      unfold shErr at h ⊢
      rw [if_pos hE] at h ⊢
      by_cases h2 : (0 ≤ lv ∧ lv ≤ 256) ∧ (1 ≤ p ∧ p ≤ 1000)
      · rw [if_pos h2] at h; exact absurd rfl h
      · rw [if_neg h2]
    rw [hE2]
    by_cases h1 : 0 ≤ lv ∧ lv ≤ 256
    · have h2 : ¬ (1 ≤ p ∧ p ≤ 1000) := by
        intro h2; unfold shErr at h; rw [if_pos hE, if_pos ⟨h1, h2⟩] at h; exact h rfl
      have H1 := Lib.hid h1
      have H2 := Lib.hid h2
      clear h h1 h2 hE hE2
      go_enter Try.func41, Try.ntmps41
      go_wp2_with (first | (go_at_call 55; refine (checkGray_any _ _ _ _ _ _).mono ?_; rintro e w' ⟨rfl, rfl⟩) | (go_at_call 56; (with_reducible refine (outside_no lv 0 256 _ H1.out).mono ?_); rintro e w' ⟨rfl, rfl⟩) | (go_at_call 56; (with_reducible refine (outside_yes p 1 1000 _ H2.out).mono ?_); rintro e w' ⟨rfl, rfl⟩))
      refine bodyPost_ret (v := .tuple #[.agg #[.int .i64 0, .int .i64 0, .int .i64 0, .int .i64 0], .int .i64 3]) (by simp [results, Try.results41, go_sem]) rfl ⟨rfl, ?_⟩
      exact below_alloc (below_alloc (below_alloc (new_below _ _) _) _) _
    · have H1 := Lib.hid h1
      clear h h1 hE hE2
      go_enter Try.func41, Try.ntmps41
      go_wp2_with (first | (go_at_call 55; refine (checkGray_any _ _ _ _ _ _).mono ?_; rintro e w' ⟨rfl, rfl⟩) | (go_at_call 56; (with_reducible refine (outside_yes lv 0 256 _ H1.out).mono ?_); rintro e w' ⟨rfl, rfl⟩))
      refine bodyPost_ret (v := .tuple #[.agg #[.int .i64 0, .int .i64 0, .int .i64 0, .int .i64 0], .int .i64 3]) (by simp [results, Try.results41, go_sem]) rfl ⟨rfl, ?_⟩
      exact below_alloc (below_alloc (below_alloc (new_below _ _) _) _) _
  · have t1 : (pageErr a b n != 0) = true := by simpa using hE
    have hE2 : shErr (pageErr a b n) lv p = pageErr a b n := by unfold shErr; rw [if_neg hE]
    rw [hE2]
    clear h hE hE2
    go_enter Try.func41, Try.ntmps41
    go_wp2_with (first | (go_at_call 55; refine (checkGray_any _ _ _ _ _ _).mono ?_; rintro e w' ⟨rfl, rfl⟩))
    refine bodyPost_ret (v := .tuple #[.agg #[.int .i64 0, .int .i64 0, .int .i64 0, .int .i64 0], .int .i64 (pageErr a b n)]) (by simp [results, Try.results41, go_sem]) rfl ⟨rfl, ?_⟩
    exact below_alloc (below_alloc (below_alloc (new_below _ _) _) _) _

/-- What is dark. -/
def darkZ (z : Nat → Int) (W : Nat) (lv : Int) (k : Nat) : Bool := decide (z (k / W * W + k % W) < lv)
/-- What Sheet returns, by what is left of the rows and of the columns. -/
def sheetV (t b l r : Nat) : Value := if t = b ∨ l = r then .tuple #[.agg #[.int .i64 0, .int .i64 0, .int .i64 0, .int .i64 0], .int .i64 10] else .tuple #[.agg #[.int .i64 l, .int .i64 t, .int .i64 ((r : Int) - l), .int .i64 ((b : Int) - t)], .int .i64 0]

set_option maxHeartbeats 2000000 in
set_option maxRecDepth 100000 in
theorem sheet_ok (W H g o c p : Nat) (lv : Int) (z : Nat → Int) (w : World) (he : sizeErr W H = 0) (hl : 0 ≤ lv ∧ lv ≤ 256) (hp : 1 ≤ p ∧ p ≤ 1000) (hzb : ∀ j, 0 ≤ z j ∧ z j ≤ 255)
    (hc : ∀ j, j < W * H → w.cell? ⟨g, o + j, none⟩ = some (.int .u8 (z j))) :
    Calls Try.prog 41 #[.agg #[.int .i64 W, .int .i64 H, .slice (some ⟨g, o, none⟩) (W * H) c], .int .i64 lv, .int .i64 p] w fun e w' =>
      ∃ t b l r : Nat, e = .returned (sheetV t b l r) ∧ WithinIs (fun y => inkB (darkZ z W lv) W 0 y W 1) (grd (p * W)) H t b ∧ WithinIs (fun x => inkB (darkZ z W lv) W x 0 1 H) (grd (p * H)) W l r ∧ Below w.heap.size w w' := by
  have hmf : ∀ (fn : Fn) (first cap : Array Value) (w : World), (Instr.makeFunc fn first cap).run Try.prog w = .ok (.func fn first cap) w := fun _ _ _ _ => rfl
  obtain ⟨⟨a1, a2, a3, a4⟩, z0, z1⟩ := sizeErr_zero he
  have hpe : pageErr W H (W * H) = 0 := by unfold pageErr; rw [if_pos he, if_pos (by simp [Int.natCast_mul])]
  have t1 : (pageErr W H (W * H) != 0) = false := by simpa using hpe
  obtain ⟨w1, hw1⟩ : ∃ w1, w1 = ((((w.alloc (.cells #[.int .i64 W, .int .i64 H, .slice (some ⟨g, o, none⟩) (W * H) c] 24)).alloc (.cells #[.int .i64 p] 3)).alloc (.cells #[.int .i64 0, .int .i64 0, .int .i64 0, .int .i64 0] 65)).alloc (.cells #[.int .i64 W, .int .i64 H, .slice (some ⟨g, o, none⟩) (W * H) c] 24)) := ⟨_, rfl⟩
  have B1 : Below w.heap.size w w1 := by rw [hw1]; exact below_alloc (below_alloc (below_alloc (new_below _ _) _) _) _
  have q0 : w1.cell? ⟨w.heap.size, 0, none⟩ = some (.int .i64 W) := by rw [hw1]; go_simp
  have q1 : w1.cell? ⟨w.heap.size, 1, none⟩ = some (.int .i64 H) := by rw [hw1]; go_simp
  have q2 : w1.cell? ⟨w.heap.size, 2, none⟩ = some (.slice (some ⟨g, o, none⟩) (W * H) c) := by rw [hw1]; go_simp
  have q3 : w1.cell? ⟨w.heap.size + 1, 0, none⟩ = some (.int .i64 p) := by rw [hw1]; go_simp
  have qb : w1.heap[w.heap.size + 1 + 1]? = some (.cells #[.int .i64 0, .int .i64 0, .int .i64 0, .int .i64 0] 65 (0, 0)) := by
    rw [hw1, Below.heap_alloc _ _ _ (by simp)]
    simpa using heap_alloc_new ((w.alloc (.cells #[.int .i64 W, .int .i64 H, .slice (some ⟨g, o, none⟩) (W * H) c] 24)).alloc (.cells #[.int .i64 p] 3)) (.cells #[.int .i64 0, .int .i64 0, .int .i64 0, .int .i64 0] 65)
  have HB1 := Lib.hid B1
  have HC := Lib.hid (fun j hj => cell_later B1 (hc j hj))
  have HZ := Lib.hid hzb
  have HS := Lib.hid he
  have HL := Lib.hid hl
  have HP := Lib.hid (show (1 : Int) ≤ p ∧ (p : Int) ≤ 1000 by omega)
  have hW1 : 1 ≤ W := by omega
  have hW4 : W ≤ 4000 := by omega
  have hH4 : H ≤ 4000 := by omega
  have hH1 : 1 ≤ H := by omega
  have hp4 : p ≤ 1000 := hp.2
  clear hc he z0 z1 hzb hpe hl hp B1
  go_enter Try.func41, Try.ntmps41
  go_wp2_with (first | (go_at_call 55; refine (checkGray_any _ _ _ _ _ _).mono ?_; rintro e w' ⟨rfl, rfl⟩) | (go_at_call 56; (with_reducible refine (outside_no lv 0 256 _ HL.out).mono ?_); rintro e w' ⟨rfl, rfl⟩) | (go_at_call 56; (with_reducible refine (outside_no (p : Int) 1 1000 _ HP.out).mono ?_); rintro e w' ⟨rfl, rfl⟩))
  rw [← hw1]
  clear hw1
  refine (toBits_ok W H g o c lv z w1 HS.out HL.out HZ.out HC.out).mono ?_
  rintro e w2 ⟨v, rfl, hown, hb2⟩
  obtain ⟨gb, cb, rfl, _, hz⟩ := owns_pageB hown (Nat.mul_pos hW1 hH1)
  go_upto_region 7 with (fail)
  obtain ⟨w3, hw3⟩ : ∃ w3, w3 = w2.alloc (.cells #[.int .i64 W, .int .i64 H, .slice (some ⟨gb, 0, none⟩) (W * H) cb] 40) := ⟨_, rfl⟩
  have hb3 : Below w2.heap.size w2 w3 := by rw [hw3]; exact new_below _ _
  have x3 : w3.heap[w2.heap.size]? = some (.cells #[.int .i64 W, .int .i64 H, .slice (some ⟨gb, 0, none⟩) (W * H) cb] 40 (0, 0)) := by rw [hw3]; exact heap_alloc_new _ _
  rw [← hw3]
  clear hw3
  have hb13 := below_step hb2 hb3
  have B3 := Lib.hid (below_step HB1.out hb13)
  have HZ3 := Lib.hid (show ∀ j, j < W * H → w3.cell? ⟨gb, 0 + j, none⟩ = some (.bool (darkZ z W lv j)) from fun j hj => cell_later hb3 (hz j hj))
  have q0' := cell_later hb13 q0
  have q1' := cell_later hb13 q1
  have q3' := cell_later hb13 q3
  have QB := Lib.hid (below_block hb13 qb)
  obtain ⟨p0, p1, p2, _, _, _⟩ := block3 x3
  clear hb2 hb3 hb13 x3 hown hz q0 q1 q2 q3 qb HB1
  go_wp2_with fail
  refine (inkCounts_ok W H gb 0 cb (darkZ z W lv) w3 HS.out HZ3.out).mono ?_
  rintro e w4 ⟨rg, rc, cg, cc, rfl, hr, hcc, hb4⟩
  have B4 := Lib.hid (below_step B3.out hb4)
  have q0 := cell_later hb4 q0'
  have q1 := cell_later hb4 q1'
  have q3 := cell_later hb4 q3'
  have QB4 := Lib.hid (below_block hb4 QB.out)
  have HR := Lib.hid hr
  have HCC := Lib.hid hcc
  clear hb4 hr hcc q0' q1' q3' p0 p1 p2 B3 HZ3 QB
  go_wp2_with fail
  refine (within_any H rg rc 95 #[.pointer (some ⟨w.heap.size + 1, 0, none⟩), .pointer (some ⟨w.heap.size, 0, none⟩)] (fun y => inkB (darkZ z W lv) W 0 y W 1) (grd (p * W)) w4 hH4 (fun k => Nat.le_trans (inkB_le _ _ _ _ _ _) (by omega)) HR.out (Go.Proofs.enters_of Try.func95 (by kernel_rfl) rfl) (fun x hx => sheet1_any x p W (p * W) _ _ w4 hx hp4 hW4 rfl q3 q0)).mono ?_
  rintro e w5 ⟨t, b, rfl, hwr, rfl⟩
  have HWR := Lib.hid hwr
  have hwr1 := hwr.1
  clear hwr
  go_wp2_with fail
  refine (within_any W cg cc 96 #[.pointer (some ⟨w.heap.size + 1, 0, none⟩), .pointer (some ⟨w.heap.size, 0, none⟩)] (fun x => inkB (darkZ z W lv) W x 0 1 H) (grd (p * H)) w4 hW4 (fun k => Nat.le_trans (inkB_le _ _ _ _ _ _) (by omega)) HCC.out (Go.Proofs.enters_of Try.func96 (by kernel_rfl) rfl) (fun x hx => sheet2_any x p H (p * H) _ _ w4 hx hp4 hH4 rfl q3 q1)).mono ?_
  rintro e w5 ⟨l, r, rfl, hwc, rfl⟩
  have HWC := Lib.hid hwc
  have hwc1 := hwc.1
  obtain ⟨⟨j0, j1, j2, j3⟩, r0, r1, r2, r3⟩ := block4 QB4.out
  have lb5 := (Array.getElem?_eq_some_iff.1 QB4.out).1
  have hsz : w.heap.size ≤ w.heap.size + 1 + 1 := by omega
  clear hwc
  by_cases htb : t = b
  · have u1 : ((t : Int) == (b : Int)) = true := by rw [htb]; simp
    have hV : sheetV t b l r = .tuple #[.agg #[.int .i64 0, .int .i64 0, .int .i64 0, .int .i64 0], .int .i64 10] := by unfold sheetV; rw [if_pos (.inl htb)]
    have HV := Lib.hid hV
    clear hV htb
    go_wp2_with fail
    refine bodyPost_ret (v := .tuple #[.agg #[.int .i64 0, .int .i64 0, .int .i64 0, .int .i64 0], .int .i64 10]) (by simp [results, Try.results41, go_sem, j0, j1, j2, j3]) rfl ⟨t, b, l, r, by rw [HV.out], HWR.out, HWC.out, ?_⟩
    exact below_far4 B4.out hsz
  · have u1 : ((t : Int) == (b : Int)) = false := by simp; omega
    by_cases hlr : l = r
    · have u2 : ((l : Int) == (r : Int)) = true := by rw [hlr]; simp
      have hV : sheetV t b l r = .tuple #[.agg #[.int .i64 0, .int .i64 0, .int .i64 0, .int .i64 0], .int .i64 10] := by unfold sheetV; rw [if_pos (.inr hlr)]
      have HV := Lib.hid hV
      clear hV htb hlr
      go_wp2_with fail
      refine bodyPost_ret (v := .tuple #[.agg #[.int .i64 0, .int .i64 0, .int .i64 0, .int .i64 0], .int .i64 10]) (by simp [results, Try.results41, go_sem, j0, j1, j2, j3]) rfl ⟨t, b, l, r, by rw [HV.out], HWR.out, HWC.out, ?_⟩
      exact below_far4 B4.out hsz
    · have u2 : ((l : Int) == (r : Int)) = false := by simp; omega
      have hV : sheetV t b l r = .tuple #[.agg #[.int .i64 l, .int .i64 t, .int .i64 ((r : Int) - l), .int .i64 ((b : Int) - t)], .int .i64 0] := by unfold sheetV; rw [if_neg (by omega)]
      have HV := Lib.hid hV
      clear hV htb hlr
      go_wp2_with fail
      refine bodyPost_ret (v := .tuple #[.agg #[.int .i64 l, .int .i64 t, .int .i64 ((r : Int) - l), .int .i64 ((b : Int) - t)], .int .i64 0]) (by simp [results, Try.results41, go_sem, j0, j1, j2, j3]) rfl ⟨t, b, l, r, by rw [HV.out], HWR.out, HWC.out, ?_⟩
      exact below_far4 B4.out hsz

end Go.Proofs.Ytofcojcfcpfdmaa
namespace Go.Proofs.Ytofcojcfcpfdmaa
open Go.RowKit
set_option linter.unusedSimpArgs false
set_option linter.unusedVariables false

def paperF (P : Nat) (f : Nat → Nat) (k : Nat) : Nat := if f k * 1000 < P then 1 else 0
def paperAt (P : Nat) (f : Nat → Nat) (m j : Nat) : Nat := if j < m then paperF P f j else 0

theorem paperF_pos {P : Nat} {f : Nat → Nat} {k : Nat} : 0 < paperF P f k ↔ grd P (f k) = false := by
  unfold paperF grd
  split
  · rename_i h; simp; omega
  · rename_i h; simp; omega
theorem paperF_zero {P : Nat} {f : Nat → Nat} {k : Nat} : paperF P f k = 0 ↔ grd P (f k) = true := by
  unfold paperF grd
  split
  · rename_i h; simp; omega
  · rename_i h; simp; omega

/-- The ends of the paper are what is left when the ground is taken away. -/
theorem ends_within {P n : Nat} {f : Nat → Nat} {i j : Int} (h : EndsIs (paperF P f) n i j true) : ∃ a b : Nat, i = a ∧ j + 1 = b ∧ a < b ∧ WithinIs f (grd P) n a b := by
  rcases h with ⟨h, _⟩ | ⟨_, a, b, rfl, rfl, ha, hb, h1, h2, h3, h4⟩
  · cases h
  · have hab : a ≤ b := Nat.le_of_not_lt fun h => by have := h3 b h; omega
    refine ⟨a, b + 1, rfl, by omega, by omega, ⟨by omega, by omega⟩, fun k hk => paperF_zero.1 (h3 k hk), fun k hk1 hk2 => paperF_zero.1 (h4 k (by omega) hk2), fun _ => ⟨paperF_pos.1 h1, ?_⟩⟩
    rw [Nat.add_sub_cancel]; exact paperF_pos.1 h2
theorem ends_none {P n : Nat} {f : Nat → Nat} {i j : Int} (h : EndsIs (paperF P f) n i j false) : WithinIs f (grd P) n n n := by
  rcases h with ⟨_, _, _, h⟩ | ⟨h, _⟩
  · exact ⟨⟨Nat.le_refl _, Nat.le_refl _⟩, fun k hk => paperF_zero.1 (h k hk), fun k h1 h2 => by omega, fun h => by omega⟩
  · cases h

set_option maxHeartbeats 1000000 in
set_option maxRecDepth 100000 in
theorem sheetOf1_any (n g c m p P pb : Nat) (f : Nat → Nat) (w : World) (hn : 1 ≤ n ∧ n ≤ 4000) (hm : m ≤ 4000) (hp : p ≤ 1000) (hP : P = p * m) (hf : ∀ k, f k ≤ 4000)
    (hc : ∀ k, k < n → w.cell? ⟨g, 0 + k, none⟩ = some (.int .i64 ((f k : Nat) : Int))) (h0 : w.cell? ⟨pb, 0, none⟩ = some (.int .i64 p)) :
    Calls Try.prog 97 #[.slice (some ⟨g, 0, none⟩) n c, .int .i64 m, .pointer (some ⟨pb, 0, none⟩)] w fun e w' => ∃ i j q, e = .returned (.tuple #[.int .i64 i, .int .i64 j, .bool q]) ∧ EndsIs (paperF P f) n i j q ∧ Below w.heap.size w w' := by
  obtain ⟨i0, hi, hz0, hz1, hz2⟩ := info_parts info_int
  have e1 : (p : Int) * (m : Int) = (P : Int) := by rw [hP, Int.natCast_mul]
  have e2 : P ≤ 1000 * 4000 := by rw [hP]; exact Nat.mul_le_mul hp hm
  have HC := Lib.hid hc
  have HF := Lib.hid hf
  have H0 := Lib.hid h0
  have hgw : g < w.heap.size := by
    have := World.block_lt_of_cell? _ _ (hc 0 hn.1)
    simpa using this
  have hpw : pb < w.heap.size := by
    have := World.block_lt_of_cell? _ _ h0
    simpa using this
  clear hP hc hf h0
  go_enter Try.func97, Try.ntmps97
  go_wp2_with (at_make; refine wpList_make_full _ rfl _ _ 52 rfl (w.heap.size) 3 i0 (.int .i64 0) 1 Try.underlying52 hi hz0 hz1 _ _ _ _ n rfl rfl rfl rfl (by rw [hz2]; omega) (by unfold maxLen; omega) (by simp) ?_)
  intro w1 hown1 hgrow1
  rw [toList_madeCells_one, numsOf_zero] at hown1
  have hb1 := (Below.refl (w.heap.size) _).grown hgrow1 (by simp) (by simp)
  have R0 := Lib.hid (show w1.ownsRow w.heap.size 3 1 (.slice (some ⟨w.heap.size, 0, none⟩) n n) n (numsOf (paperAt P f 0) n) ∧ Below w.heap.size w w1 from ⟨by
    rw [numsOf_congr (g := fun _ => 0) (fun j _ => by unfold paperAt; rw [if_neg (by omega)])]; exact hown1, hb1⟩)
  clear hown1 hgrow1 hb1
  go_wp2_with fail
  go_loopw [16] (fun i wr => ∃ k : Nat, k ≤ n ∧ i = .int .i64 k ∧ Hid (wr.ownsRow w.heap.size 3 1 (.slice (some ⟨w.heap.size, 0, none⟩) n n) n (numsOf (paperAt P f k) n) ∧ Below w.heap.size w wr)) (fun i _ => n - (intOf i).toNat)
  case atStart => exact ⟨0, Nat.zero_le _, rfl, R0⟩
  case round =>
    obtain ⟨k, hk, rfl, HR⟩ := hrel
    clear R0
    have pc := (HR.out.2.cell (p := ⟨pb, 0, none⟩) hpw).trans H0.out
    by_cases hlt : k < n
    · have hx := (HR.out.2.cell (p := ⟨g, 0 + k, none⟩) hgw).trans (HC.out k hlt)
      rw [Nat.zero_add] at hx
      obtain ⟨x, hxe⟩ : ∃ x, x = f k := ⟨_, rfl⟩
      rw [← hxe] at hx
      have hx4 := HF.out k
      rw [← hxe] at hx4
      have HX := Lib.hid hxe
      have i1 : (k : Int) < (n : Int) := by omega
      have ht := HR.out.1.cellAt k (by omega)
      rw [numsOf_get _ _ _ hlt, show paperAt P f k k = 0 by unfold paperAt; rw [if_neg (by omega)]] at ht
      have hfz := HR.out.1.frozenAt k
      clear hxe
      by_cases hd : (x : Int) * 1000 < (P : Int)
      · have hv : paperF P f k = 1 := by unfold paperF; rw [← HX.out, if_pos (by omega)]
        have HV := Lib.hid hv
        clear hv
        go_wp2_with fail
        go_roundw
        case rel => exact ⟨k + 1, by omega, by go_num, Lib.hid ⟨by
          have := (HR.out.1.stored k (.int .i64 ((1 : Nat) : Int))).1
          rw [numsOf_set (g := paperAt P f (k + 1)) hlt (by unfold paperAt; rw [if_pos (by omega), HV.out]) (fun i hi hne => by
            unfold paperAt
            by_cases e : i < k
            · rw [if_pos e, if_pos (by omega)]
            · rw [if_neg e, if_neg (by omega)])] at this
          exact this, HR.out.2.setCell (Nat.le_refl _) _⟩⟩
        case measure => simp [intOf]; omega
      · have hv : paperF P f k = 0 := by unfold paperF; rw [← HX.out, if_neg (by omega)]
        have HV := Lib.hid hv
        clear hv
        go_wp2_with fail
        go_roundw
        case rel => exact ⟨k + 1, by omega, by go_num, Lib.hid ⟨by
          rw [numsOf_congr (g := paperAt P f k) (fun i hi => by
            unfold paperAt
            by_cases e : i < k
            · rw [if_pos e, if_pos (by omega)]
            · rw [if_neg e]
              by_cases e2 : i = k
              · rw [if_pos (by omega), e2, HV.out]
              · rw [if_neg (by omega)])]
          exact HR.out.1, HR.out.2⟩⟩
        case measure => simp [intOf]; omega
    · obtain rfl : k = n := by omega
      have HE := Lib.hid (show ∀ j, j < k → wr.cell? ⟨w.heap.size, 0 + j, none⟩ = some (.int .i64 ((paperF P f j : Nat) : Int)) from fun j hj => by
        rw [Nat.zero_add, HR.out.1.cellAt j (by omega), numsOf_get _ _ _ hj]
        unfold paperAt; rw [if_pos hj])
      go_wp2_with fail
      refine (ends_any w.heap.size k k (paperF P f) wr (by omega) hn.1 HE.out).mono ?_
      rintro e w' ⟨i, j, q, hE, rfl, rfl⟩
      have HEE := Lib.hid hE
      clear hE
      go_wp2_with fail
      exact bodyPost_ret (v := .tuple #[.int .i64 i, .int .i64 j, .bool q]) (by simp [results, Try.results97, go_sem]) rfl ⟨i, j, q, rfl, HEE.out, HR.out.2⟩

end Go.Proofs.Ytofcojcfcpfdmaa
