/-
  What sheets_holds leans on: contracts of the functions that it calls.
-/
import Derived.Test.YtofcojcfcpfdmaaRows
import Derived.WalkKit
import Derived.WalkSpells
import Derived.WalkLawsBesides
import Derived.Lib.Hide
import Derived.Deep.RegionHeld3
import Derived.Shelf.Abstract
import Derived.Deep.AppendLies
import Derived.Deep.DrawnRows
import Derived.Deep.RegionLaw
import Derived.Deep.QuietTactic
import Derived.BigQuiet
import Derived.ProofKit
import Derived.OpenShut
import Derived.ShutString
import Derived.ChangeOld
import Derived.Lib.SmallJoins
import Derived.Deep.Grids
import Derived.Deep.DeepCutAuto
import Derived.Lib.MinMax
import Derived.Deep.CutRange
import Derived.Laws.EntriesVeiled
import Derived.StillTailTactics
import Derived.RegionTactic
import Derived.ChangeAlike
import Derived.BigRegion
import Derived.Deep.OwnRows
import Derived.Test.YtofcojcfcpfdmaaCSheets5
namespace Go.Proofs.Ytofcojcfcpfdmaa
open Go.RowKit
set_option linter.unusedSimpArgs false
set_option linter.unusedVariables false

theorem dark_at {z : Nat → Int} {W x y : Nat} {lv : Int} (hx : x < W) : darkZ z W lv (y * W + x) = decide (z (y * W + x) < lv) := by
  unfold darkZ
  rw [Nat.mul_comm ((y * W + x) / W), Nat.div_add_mod]

theorem rowsAt_hit (z : Nat → Bool) (W y x : Nat) (h : z (y * W + x) = true) : rowsAt z W y (x + 1) y = rowsAt z W y x y + 1 := by
  unfold rowsAt
  rw [if_neg (by omega), if_pos rfl, if_neg (by omega), if_pos rfl, ink1_succ, h]; rfl
theorem rowsAt_else (z : Nat → Bool) (W y x i : Nat) (h : i ≠ y) : rowsAt z W y (x + 1) i = rowsAt z W y x i := by
  unfold rowsAt
  by_cases e : i < y
  · rw [if_pos e, if_pos e]
  · rw [if_neg e, if_neg e, if_neg h, if_neg h]
theorem colsAt_hit (z : Nat → Bool) (W y x : Nat) (h : z (y * W + x) = true) : colsAt z W y (x + 1) x = colsAt z W y x x + 1 := by
  unfold colsAt colN
  rw [if_pos (by omega), if_neg (by omega), sumN, h]; rfl
theorem colsAt_else (z : Nat → Bool) (W y x i : Nat) (h : i ≠ x) : colsAt z W y (x + 1) i = colsAt z W y x i := by
  unfold colsAt
  by_cases e : i < x
  · rw [if_pos e, if_pos (by omega)]
  · rw [if_neg e, if_neg (by omega)]
theorem rowsAt_small (z : Nat → Bool) (W y x i : Nat) (hx : x ≤ W) : rowsAt z W y x i ≤ W := by
  unfold rowsAt
  split
  · exact ink1_le _ _ _ _ _
  · split
    · exact Nat.le_trans (ink1_le _ _ _ _ _) hx
    · omega
theorem colN_small (z : Nat → Bool) (W i y : Nat) : colN z W i y ≤ y := by
  have := sumN_le (fun k => (z (k * W + i)).toNat) 1 (fun j => toNat_le _) y
  unfold colN; omega
theorem colsAt_small (z : Nat → Bool) (W y x i : Nat) : colsAt z W y x i ≤ y + 1 := by
  unfold colsAt
  split
  · exact colN_small _ _ _ _
  · exact Nat.le_trans (colN_small _ _ _ _) (by omega)

/-- The counts of dark pixels, as they grow. -/
structure Darks (N rg cg W H : Nat) (q : Nat → Bool) (w1 : World) (y x : Nat) (wx : World) : Prop where
  r : wx.rowIs rg 3 H (fun k => .int .i64 ((rowsAt q W y x k : Nat) : Int))
  c : wx.rowIs cg 3 W (fun k => .int .i64 ((colsAt q W y x k : Nat) : Int))
  b : Below N w1 wx

theorem Darks.row {N rg cg W H y : Nat} {q : Nat → Bool} {w1 wx : World} (h : Darks N rg cg W H q w1 y W wx) : Darks N rg cg W H q w1 (y + 1) 0 wx :=
  ⟨h.r.congr fun i _ => by rw [rowsAt_row], h.c.congr fun i hi => by rw [colsAt_row _ _ _ _ hi], h.b⟩
theorem Darks.no {N rg cg W H y x : Nat} {q : Nat → Bool} {w1 wx : World} (h : Darks N rg cg W H q w1 y x wx) (hq : q (y * W + x) = false) : Darks N rg cg W H q w1 y (x + 1) wx :=
  ⟨h.r.congr fun i _ => by rw [rowsAt_no _ _ _ _ _ hq], h.c.congr fun i hi => by rw [colsAt_no _ _ _ _ _ hq], h.b⟩
theorem Darks.hit {N rg cg W H y x R C : Nat} {q : Nat → Bool} {w1 wx : World} (h : Darks N rg cg W H q w1 y x wx) (hne : rg ≠ cg) (hr : N ≤ rg) (hc : N ≤ cg) (hq : q (y * W + x) = true) (eR : R = rowsAt q W y x y) (eC : C = colsAt q W y x x) :
    Darks N rg cg W H q w1 y (x + 1) ((wx.setCell ⟨rg, y, none⟩ (.int .i64 ((R : Int) + 1))).setCell ⟨cg, x, none⟩ (.int .i64 ((C : Int) + 1))) := by
  refine ⟨?_, ?_, (h.b.setCell hr _).setCell hc _⟩
  · refine ((h.r.set y (.int .i64 ((R : Int) + 1))).setOther (by simpa using hne) _).congr fun i _ => ?_
    by_cases e : i = y
    · simp only [if_pos e, e, rowsAt_hit _ _ _ _ hq, eR]; simp
    · simp only [if_neg e, rowsAt_else _ _ _ _ _ e]
  · refine ((h.c.setOther (by simpa using hne.symm) (.int .i64 ((R : Int) + 1))).set x (.int .i64 ((C : Int) + 1))).congr fun i _ => ?_
    by_cases e : i = x
    · simp only [if_pos e, e, colsAt_hit _ _ _ _ hq, eC]; simp
    · simp only [if_neg e, colsAt_else _ _ _ _ _ e]

/-- What the sheet is: nothing, or what is left of the rows and of the columns. -/
def SheetIs (q : Nat → Bool) (p W H : Nat) (X Y bw bh : Int) (is : Bool) : Prop :=
  ∃ t b l r : Nat, WithinIs (fun y => inkB q W 0 y W 1) (grd (p * W)) H t b ∧ WithinIs (fun x => inkB q W x 0 1 H) (grd (p * H)) W l r ∧
    ((is = false ∧ (t = b ∨ l = r) ∧ X = 0 ∧ Y = 0 ∧ bw = 0 ∧ bh = 0) ∨ (is = true ∧ ¬ (t = b ∨ l = r) ∧ X = l ∧ Y = t ∧ bw = (r : Int) - l ∧ bh = (b : Int) - t))

set_option maxHeartbeats 8000000 in
set_option maxRecDepth 100000 in
theorem sheetOf_ok (W H NN g o c p : Nat) (lv : Int) (z : Nat → Int) (w : World) (bW : 1 ≤ W ∧ W ≤ 4000) (bH : 1 ≤ H ∧ H ≤ 4000) (hNN : NN = W * H) (hN1 : NN ≤ 1048576) (hp : 1 ≤ p ∧ p ≤ 1000) (hl : 0 ≤ lv ∧ lv ≤ 256) (hzb : ∀ j, 0 ≤ z j ∧ z j ≤ 255)
    (hc : ∀ j, j < NN → w.cell? ⟨g, o + j, none⟩ = some (.int .u8 (z j))) :
    Calls Try.prog 44 #[.agg #[.int .i64 W, .int .i64 H, .slice (some ⟨g, o, none⟩) NN c], .int .i64 lv, .int .i64 p] w fun e w' =>
      ∃ X Y bw bh is, e = .returned (.tuple #[.agg #[.int .i64 X, .int .i64 Y, .int .i64 bw, .int .i64 bh], .bool is]) ∧ SheetIs (darkZ z W lv) p W H X Y bw bh is ∧ Below w.heap.size w w' := by
  have hmf : ∀ (fn : Fn) (first cap : Array Value) (w : World), (Instr.makeFunc fn first cap).run Try.prog w = .ok (.func fn first cap) w := fun _ _ _ _ => rfl
  obtain ⟨hW1, hW4⟩ := bW
  obtain ⟨hH1, hH4⟩ := bH
  obtain ⟨hp1, hp4⟩ := hp
  obtain ⟨lv1, lv2⟩ := hl
  have mkH := run_make_row' (P := Try.prog) 52 3 (.int .i64 0) 8 Try.underlying52 info_int rfl .i64 .i64 H (by omega) (by omega)
  have mkW := run_make_row' (P := Try.prog) 52 3 (.int .i64 0) 8 Try.underlying52 info_int rfl .i64 .i64 W (by omega) (by omega)
  obtain ⟨w1, hw1⟩ : ∃ w1, w1 = ((w.alloc (.cells #[.int .i64 W, .int .i64 H, .slice (some ⟨g, o, none⟩) NN c] 24)).alloc (.cells #[.int .i64 p] 3)).alloc (.cells #[.int .i64 0, .int .i64 0, .int .i64 0, .int .i64 0] 65) := ⟨_, rfl⟩
  have hB1 : Below w.heap.size w w1 := by rw [hw1]; exact below_alloc (below_alloc (new_below _ _) _) _
  have q0 : w1.cell? ⟨w.heap.size, 0, none⟩ = some (.int .i64 W) := by rw [hw1]; go_simp
  have q1 : w1.cell? ⟨w.heap.size, 1, none⟩ = some (.int .i64 H) := by rw [hw1]; go_simp
  have q2 : w1.cell? ⟨w.heap.size, 2, none⟩ = some (.slice (some ⟨g, o, none⟩) NN c) := by rw [hw1]; go_simp
  have q3 : w1.cell? ⟨w.heap.size + 1, 0, none⟩ = some (.int .i64 p) := by rw [hw1]; go_simp
  have qb : w1.heap[w.heap.size + 1 + 1]? = some (.cells #[.int .i64 0, .int .i64 0, .int .i64 0, .int .i64 0] 65 (0, 0)) := by
    rw [hw1]
    simpa using heap_alloc_new ((w.alloc (.cells #[.int .i64 W, .int .i64 H, .slice (some ⟨g, o, none⟩) NN c] 24)).alloc (.cells #[.int .i64 p] 3)) (.cells #[.int .i64 0, .int .i64 0, .int .i64 0, .int .i64 0] 65)
  have hs1 : w1.heap.size = w.heap.size + 1 + 1 + 1 := by rw [hw1]; simp
  have hgw : g < w.heap.size := by
    have := World.block_lt_of_cell? _ _ (hc 0 (by rw [hNN]; exact Nat.mul_pos hW1 hH1))
    simpa using this
  have HC := Lib.hid hc
  have HZ := Lib.hid hzb
  have HNN := Lib.hid hNN
  have HB1 := Lib.hid hB1
  have Q := Lib.hid (And.intro q0 (And.intro q1 (And.intro q2 (And.intro q3 qb))))
  have HS1 := Lib.hid hs1
  have HG := Lib.hid hgw
  have l0 : w.heap.size < w1.heap.size := by omega
  clear hc hzb hNN hB1 q2 q3 qb hgw hs1
  go_enter Try.func44, Try.ntmps44
  go_upto_region 1 with (fail)
  rw [← hw1]
  clear hw1
  go_region
  · obtain ⟨w2, hw2⟩ : ∃ w2, w2 = ((w1.alloc (.cells (madeCells #[.int .i64 0] H) 3)).alloc (.cells (madeCells #[.int .i64 0] W) 3)).drew := ⟨_, rfl⟩
    have D0 : Darks w1.heap.size w1.heap.size (w1.heap.size + 1) W H (darkZ z W lv) w1 0 0 w2 := by
      have r1 := World.rowIs_made w1 (.int .i64 0) H 3
      have r2 := World.rowIs_made (w1.alloc (.cells (madeCells #[.int .i64 0] H) 3)) (.int .i64 0) W 3
      have r1' := r1.alloc (.cells (madeCells #[.int .i64 0] W) 3)
      rw [show (w1.alloc (.cells (madeCells #[.int .i64 0] H) 3)).heap.size = w1.heap.size + 1 by simp] at r2
      rw [hw2]
      refine ⟨World.rowIs.congr (r1').drew fun i _ => ?_, World.rowIs.congr (r2).drew fun i _ => ?_, (below_alloc (new_below _ _) _).drew⟩
      · simp [rowsAt, ink1, sumN]
      · simp [colsAt, colN, sumN]
    have HD0 := Lib.hid D0
    rw [← hw2]
    have k1 := (D0.b.cell (p := ⟨w.heap.size, 1, none⟩) l0).trans q1
    clear hw2 D0 mkH mkW q0 q1
    go_wp2_with fail
    go_loopw [27] (fun i wr => ∃ y : Nat, y ≤ H ∧ i = .int .i64 y ∧ Hid (Darks w1.heap.size w1.heap.size (w1.heap.size + 1) W H (darkZ z W lv) w1 y 0 wr)) (fun i _ => H - (intOf i).toNat)
    case atStart => exact ⟨0, Nat.zero_le _, rfl, HD0⟩
    case round =>
      obtain ⟨y, hy, rfl, PY⟩ := hrel
      clear HD0 k1
      have k0 := (PY.out.b.cell (p := ⟨w.heap.size, 0, none⟩) l0).trans Q.out.1
      by_cases hlt : y < H
      · go_wp2_with fail
        go_loopw [32] (fun i wr => ∃ x : Nat, x ≤ W ∧ i = .int .i64 x ∧ Hid (Darks w1.heap.size w1.heap.size (w1.heap.size + 1) W H (darkZ z W lv) w1 y x wr)) (fun i _ => W - (intOf i).toNat)
        case atStart => exact ⟨0, Nat.zero_le _, rfl, PY⟩
        case round =>
          obtain ⟨x, hxw, rfl, PX⟩ := hrel
          clear PY k0
          have k0 := (PX.out.b.cell (p := ⟨w.heap.size, 0, none⟩) l0).trans Q.out.1
          have k2 := (PX.out.b.cell (p := ⟨w.heap.size, 2, none⟩) l0).trans Q.out.2.2.1
          by_cases hltx : x < W
          · have hfit := row_fits hlt (show x + 1 ≤ W by omega)
            rw [← HNN.out] at hfit
            obtain ⟨K, hK⟩ : ∃ K, K = y * W + x := ⟨_, rfl⟩
            have hKN : K < NN := by omega
            have hx := (PX.out.b.cell (p := ⟨g, o + K, none⟩) (by have := HG.out; simp; omega)).trans (cell_later HB1.out (HC.out K hKN))
            obtain ⟨v, hv⟩ : ∃ v, v = z K := ⟨_, rfl⟩
            obtain ⟨v1, v2⟩ := HZ.out K
            rw [← hv] at hx v1 v2
            have hdk : darkZ z W lv (y * W + x) = decide (v < lv) := by rw [dark_at hltx, hv, hK]
            have HDK := Lib.hid hdk
            have e2 : (0 : Int) ≤ (y : Int) * (W : Int) := Int.mul_nonneg (by omega) (by omega)
            have e3 : (y : Int) * (W : Int) ≤ 16000000 := by
              have := Nat.mul_le_mul (show y ≤ 4000 by omega) hW4
              rw [← Int.natCast_mul]; omega
            have e4 : (y : Int) * (W : Int) + (x : Int) = (K : Int) := by rw [hK, Int.natCast_add, Int.natCast_mul]
            clear hK hfit hv hdk
            by_cases hd : v < lv
            · have HQ := Lib.hid (show darkZ z W lv (y * W + x) = true by rw [HDK.out]; exact decide_eq_true hd)
              have cR := PX.out.r.cell hlt
              have cC := PX.out.c.cell hltx
              have zR := PX.out.r.frozen y
              have zC := PX.out.c.frozen x
              obtain ⟨R, hR⟩ : ∃ R, R = rowsAt (darkZ z W lv) W y x y := ⟨_, rfl⟩
              obtain ⟨C, hC⟩ : ∃ C, C = colsAt (darkZ z W lv) W y x x := ⟨_, rfl⟩
              rw [← hR] at cR
              rw [← hC] at cC
              have bR : R ≤ 4000 := by rw [hR]; exact Nat.le_trans (rowsAt_small _ _ _ _ _ hxw) hW4
              have bC : C ≤ 4001 := by rw [hC]; exact Nat.le_trans (colsAt_small _ _ _ _ _) (by omega)
              have HR := Lib.hid hR
              have HCC := Lib.hid hC
              clear hR hC
              go_wp2_with fail
              go_roundw
              case rel => exact ⟨x + 1, by omega, by go_num, Lib.hid (PX.out.hit (by omega) (by omega) (by omega) HQ.out HR.out HCC.out)⟩
              case measure => simp [intOf]; omega
            · have HQ := Lib.hid (show darkZ z W lv (y * W + x) = false by rw [HDK.out]; exact decide_eq_false hd)
              go_wp2_with fail
              go_roundw
              case rel => exact ⟨x + 1, by omega, by go_num, Lib.hid (PX.out.no HQ.out)⟩
              case measure => simp [intOf]; omega
          · obtain rfl : x = W := by omega
            go_wp2_with fail
            go_roundw
            case rel => exact ⟨y + 1, by omega, by go_num, Lib.hid PX.out.row⟩
            case measure => simp [intOf]; omega
      · obtain rfl : y = H := by omega
        have k3 := (PY.out.b.cell (p := ⟨w.heap.size + 1, 0, none⟩) (by have := HS1.out; simp; omega)).trans Q.out.2.2.2.1
        have QB := Lib.hid ((PY.out.b.block (w.heap.size + 1 + 1) (by have := HS1.out; omega)).trans Q.out.2.2.2.2)
        have CR := Lib.hid (show ∀ k, k < y → wr.cell? ⟨w1.heap.size, 0 + k, none⟩ = some (.int .i64 ((inkB (darkZ z W lv) W 0 k W 1 : Nat) : Int)) from fun k hk => by
          rw [Nat.zero_add, PY.out.r.cell hk, rowsAt_end _ _ _ _ hk])
        have CC := Lib.hid (show ∀ k, k < W → wr.cell? ⟨(w1.heap.size + 1), 0 + k, none⟩ = some (.int .i64 ((inkB (darkZ z W lv) W k 0 1 y : Nat) : Int)) from fun k hk => by
          rw [Nat.zero_add, PY.out.c.cell hk, colsAt_end])
        have BR := Lib.hid (HB1.out.trans (PY.out.b.mono (show w.heap.size ≤ w1.heap.size by omega)))
        have K1 := Lib.hid ((PY.out.b.cell (p := ⟨w.heap.size, 1, none⟩) l0).trans Q.out.2.1)
        have K3 := Lib.hid k3
        clear PY Q
        go_wp2_with fail
        refine (sheetOf1_any y w1.heap.size y W p (p * W) (w.heap.size + 1) (fun y => inkB (darkZ z W lv) W 0 y W 1) wr ⟨hH1, hH4⟩ hW4 hp4 rfl (fun k => Nat.le_trans (inkB_le _ _ _ _ _ _) (by omega)) CR.out K3.out).mono ?_
        rintro e w5 ⟨i, j, is, rfl, hE, hb5⟩
        have HE := Lib.hid hE
        have B5 := Lib.hid (below_step BR.out hb5)
        have k1 := cell_later hb5 K1.out
        have K35 := Lib.hid (cell_later hb5 K3.out)
        have CC5 := Lib.hid (fun k hk => cell_later hb5 (CC.out k hk))
        have QB5 := Lib.hid (below_block hb5 QB.out)
        clear hE hb5 k0 k3
        go_wp2_with fail
        refine (sheetOf1_any W (w1.heap.size + 1) W y p (p * y) (w.heap.size + 1) (fun x => inkB (darkZ z W lv) W x 0 1 y) w5 ⟨hW1, hW4⟩ hH4 hp4 rfl (fun k => Nat.le_trans (inkB_le _ _ _ _ _ _) (by omega)) CC5.out K35.out).mono ?_
        rintro e w6 ⟨i2, j2, is2, rfl, hE2, hb6⟩
        have HE2 := Lib.hid hE2
        have B6 := Lib.hid (below_step B5.out hb6)
        have r1 := endsIs_bound HE.out
        have r2 := endsIs_bound HE2.out
        obtain ⟨⟨r11, r12⟩, r13, r14⟩ := r1
        obtain ⟨⟨r21, r22⟩, r23, r24⟩ := r2
        obtain ⟨⟨j0, j1, jj2, j3⟩, f0, f1, f2, f3⟩ := block4 (below_block hb6 QB5.out)
        have hsz : w.heap.size ≤ w.heap.size + 1 + 1 := by omega
        clear hE2 hb6 k1
        cases is
        · go_wp2_with fail
          refine bodyPost_ret (v := .tuple #[.agg #[.int .i64 0, .int .i64 0, .int .i64 0, .int .i64 0], .bool false]) (by simp [results, Try.results44, go_sem, j0, j1, jj2, j3]) rfl ⟨0, 0, 0, 0, false, rfl, ?_, below_far4 B6.out hsz⟩
          cases is2
          · exact ⟨_, _, _, _, ends_none HE.out, ends_none HE2.out, .inl ⟨rfl, .inl rfl, rfl, rfl, rfl, rfl⟩⟩
          · obtain ⟨a, b, _, _, _, h5⟩ := ends_within HE2.out
            exact ⟨_, _, _, _, ends_none HE.out, h5, .inl ⟨rfl, .inl rfl, rfl, rfl, rfl, rfl⟩⟩
        · cases is2
          · go_wp2_with fail
            refine bodyPost_ret (v := .tuple #[.agg #[.int .i64 0, .int .i64 0, .int .i64 0, .int .i64 0], .bool false]) (by simp [results, Try.results44, go_sem, j0, j1, jj2, j3]) rfl ⟨0, 0, 0, 0, false, rfl, ?_, below_far4 B6.out hsz⟩
            obtain ⟨a, b, _, _, _, h5⟩ := ends_within HE.out
            exact ⟨_, _, _, _, h5, ends_none HE2.out, .inl ⟨rfl, .inr rfl, rfl, rfl, rfl, rfl⟩⟩
          · go_wp2_with fail
            refine bodyPost_ret (v := .tuple #[.agg #[.int .i64 i2, .int .i64 i, .int .i64 (j2 - i2 + 1), .int .i64 (j - i + 1)], .bool true]) (by simp [results, Try.results44, go_sem, j0, j1, jj2, j3]) rfl ⟨i2, i, j2 - i2 + 1, j - i + 1, true, rfl, ?_, below_far4 B6.out hsz⟩
            obtain ⟨a, b, ha, hb, hab, h5⟩ := ends_within HE.out
            obtain ⟨a2, b2, ha2, hb2, hab2, h52⟩ := ends_within HE2.out
            exact ⟨_, _, _, _, h5, h52, .inr ⟨rfl, by omega, by omega, by omega, by omega, by omega⟩⟩
  · obtain ⟨w2, hw2⟩ : ∃ w2, w2 = ((w1.alloc (.cells (madeCells #[.int .i64 0] W) 3)).alloc (.cells (madeCells #[.int .i64 0] H) 3)).drew := ⟨_, rfl⟩
    have D0 : Darks w1.heap.size (w1.heap.size + 1) w1.heap.size W H (darkZ z W lv) w1 0 0 w2 := by
      have r1 := World.rowIs_made w1 (.int .i64 0) W 3
      have r2 := World.rowIs_made (w1.alloc (.cells (madeCells #[.int .i64 0] W) 3)) (.int .i64 0) H 3
      have r1' := r1.alloc (.cells (madeCells #[.int .i64 0] H) 3)
      rw [show (w1.alloc (.cells (madeCells #[.int .i64 0] W) 3)).heap.size = w1.heap.size + 1 by simp] at r2
      rw [hw2]
      refine ⟨World.rowIs.congr (r2).drew fun i _ => ?_, World.rowIs.congr (r1').drew fun i _ => ?_, (below_alloc (new_below _ _) _).drew⟩
      · simp [rowsAt, ink1, sumN]
      · simp [colsAt, colN, sumN]
    have HD0 := Lib.hid D0
    rw [← hw2]
    have k1 := (D0.b.cell (p := ⟨w.heap.size, 1, none⟩) l0).trans q1
    clear hw2 D0 mkH mkW q0 q1
    go_wp2_with fail
    go_loopw [27] (fun i wr => ∃ y : Nat, y ≤ H ∧ i = .int .i64 y ∧ Hid (Darks w1.heap.size (w1.heap.size + 1) w1.heap.size W H (darkZ z W lv) w1 y 0 wr)) (fun i _ => H - (intOf i).toNat)
    case atStart => exact ⟨0, Nat.zero_le _, rfl, HD0⟩
    case round =>
      obtain ⟨y, hy, rfl, PY⟩ := hrel
      clear HD0 k1
      have k0 := (PY.out.b.cell (p := ⟨w.heap.size, 0, none⟩) l0).trans Q.out.1
      by_cases hlt : y < H
      · go_wp2_with fail
        go_loopw [32] (fun i wr => ∃ x : Nat, x ≤ W ∧ i = .int .i64 x ∧ Hid (Darks w1.heap.size (w1.heap.size + 1) w1.heap.size W H (darkZ z W lv) w1 y x wr)) (fun i _ => W - (intOf i).toNat)
        case atStart => exact ⟨0, Nat.zero_le _, rfl, PY⟩
        case round =>
          obtain ⟨x, hxw, rfl, PX⟩ := hrel
          clear PY k0
          have k0 := (PX.out.b.cell (p := ⟨w.heap.size, 0, none⟩) l0).trans Q.out.1
          have k2 := (PX.out.b.cell (p := ⟨w.heap.size, 2, none⟩) l0).trans Q.out.2.2.1
          by_cases hltx : x < W
          · have hfit := row_fits hlt (show x + 1 ≤ W by omega)
            rw [← HNN.out] at hfit
            obtain ⟨K, hK⟩ : ∃ K, K = y * W + x := ⟨_, rfl⟩
            have hKN : K < NN := by omega
            have hx := (PX.out.b.cell (p := ⟨g, o + K, none⟩) (by have := HG.out; simp; omega)).trans (cell_later HB1.out (HC.out K hKN))
            obtain ⟨v, hv⟩ : ∃ v, v = z K := ⟨_, rfl⟩
            obtain ⟨v1, v2⟩ := HZ.out K
            rw [← hv] at hx v1 v2
            have hdk : darkZ z W lv (y * W + x) = decide (v < lv) := by rw [dark_at hltx, hv, hK]
            have HDK := Lib.hid hdk
            have e2 : (0 : Int) ≤ (y : Int) * (W : Int) := Int.mul_nonneg (by omega) (by omega)
            have e3 : (y : Int) * (W : Int) ≤ 16000000 := by
              have := Nat.mul_le_mul (show y ≤ 4000 by omega) hW4
              rw [← Int.natCast_mul]; omega
            have e4 : (y : Int) * (W : Int) + (x : Int) = (K : Int) := by rw [hK, Int.natCast_add, Int.natCast_mul]
            clear hK hfit hv hdk
            by_cases hd : v < lv
            · have HQ := Lib.hid (show darkZ z W lv (y * W + x) = true by rw [HDK.out]; exact decide_eq_true hd)
              have cR := PX.out.r.cell hlt
              have cC := PX.out.c.cell hltx
              have zR := PX.out.r.frozen y
              have zC := PX.out.c.frozen x
              obtain ⟨R, hR⟩ : ∃ R, R = rowsAt (darkZ z W lv) W y x y := ⟨_, rfl⟩
              obtain ⟨C, hC⟩ : ∃ C, C = colsAt (darkZ z W lv) W y x x := ⟨_, rfl⟩
              rw [← hR] at cR
              rw [← hC] at cC
              have bR : R ≤ 4000 := by rw [hR]; exact Nat.le_trans (rowsAt_small _ _ _ _ _ hxw) hW4
              have bC : C ≤ 4001 := by rw [hC]; exact Nat.le_trans (colsAt_small _ _ _ _ _) (by omega)
              have HR := Lib.hid hR
              have HCC := Lib.hid hC
              clear hR hC
              go_wp2_with fail
              go_roundw
              case rel => exact ⟨x + 1, by omega, by go_num, Lib.hid (PX.out.hit (by omega) (by omega) (by omega) HQ.out HR.out HCC.out)⟩
              case measure => simp [intOf]; omega
            · have HQ := Lib.hid (show darkZ z W lv (y * W + x) = false by rw [HDK.out]; exact decide_eq_false hd)
              go_wp2_with fail
              go_roundw
              case rel => exact ⟨x + 1, by omega, by go_num, Lib.hid (PX.out.no HQ.out)⟩
              case measure => simp [intOf]; omega
          · obtain rfl : x = W := by omega
            go_wp2_with fail
            go_roundw
            case rel => exact ⟨y + 1, by omega, by go_num, Lib.hid PX.out.row⟩
            case measure => simp [intOf]; omega
      · obtain rfl : y = H := by omega
        have k3 := (PY.out.b.cell (p := ⟨w.heap.size + 1, 0, none⟩) (by have := HS1.out; simp; omega)).trans Q.out.2.2.2.1
        have QB := Lib.hid ((PY.out.b.block (w.heap.size + 1 + 1) (by have := HS1.out; omega)).trans Q.out.2.2.2.2)
        have CR := Lib.hid (show ∀ k, k < y → wr.cell? ⟨(w1.heap.size + 1), 0 + k, none⟩ = some (.int .i64 ((inkB (darkZ z W lv) W 0 k W 1 : Nat) : Int)) from fun k hk => by
          rw [Nat.zero_add, PY.out.r.cell hk, rowsAt_end _ _ _ _ hk])
        have CC := Lib.hid (show ∀ k, k < W → wr.cell? ⟨w1.heap.size, 0 + k, none⟩ = some (.int .i64 ((inkB (darkZ z W lv) W k 0 1 y : Nat) : Int)) from fun k hk => by
          rw [Nat.zero_add, PY.out.c.cell hk, colsAt_end])
        have BR := Lib.hid (HB1.out.trans (PY.out.b.mono (show w.heap.size ≤ w1.heap.size by omega)))
        have K1 := Lib.hid ((PY.out.b.cell (p := ⟨w.heap.size, 1, none⟩) l0).trans Q.out.2.1)
        have K3 := Lib.hid k3
        clear PY Q
        go_wp2_with fail
        refine (sheetOf1_any y (w1.heap.size + 1) y W p (p * W) (w.heap.size + 1) (fun y => inkB (darkZ z W lv) W 0 y W 1) wr ⟨hH1, hH4⟩ hW4 hp4 rfl (fun k => Nat.le_trans (inkB_le _ _ _ _ _ _) (by omega)) CR.out K3.out).mono ?_
        rintro e w5 ⟨i, j, is, rfl, hE, hb5⟩
        have HE := Lib.hid hE
        have B5 := Lib.hid (below_step BR.out hb5)
        have k1 := cell_later hb5 K1.out
        have K35 := Lib.hid (cell_later hb5 K3.out)
        have CC5 := Lib.hid (fun k hk => cell_later hb5 (CC.out k hk))
        have QB5 := Lib.hid (below_block hb5 QB.out)
        clear hE hb5 k0 k3
        go_wp2_with fail
        refine (sheetOf1_any W w1.heap.size W y p (p * y) (w.heap.size + 1) (fun x => inkB (darkZ z W lv) W x 0 1 y) w5 ⟨hW1, hW4⟩ hH4 hp4 rfl (fun k => Nat.le_trans (inkB_le _ _ _ _ _ _) (by omega)) CC5.out K35.out).mono ?_
        rintro e w6 ⟨i2, j2, is2, rfl, hE2, hb6⟩
        have HE2 := Lib.hid hE2
        have B6 := Lib.hid (below_step B5.out hb6)
        have r1 := endsIs_bound HE.out
        have r2 := endsIs_bound HE2.out
        obtain ⟨⟨r11, r12⟩, r13, r14⟩ := r1
        obtain ⟨⟨r21, r22⟩, r23, r24⟩ := r2
        obtain ⟨⟨j0, j1, jj2, j3⟩, f0, f1, f2, f3⟩ := block4 (below_block hb6 QB5.out)
        have hsz : w.heap.size ≤ w.heap.size + 1 + 1 := by omega
        clear hE2 hb6 k1
        cases is
        · go_wp2_with fail
          refine bodyPost_ret (v := .tuple #[.agg #[.int .i64 0, .int .i64 0, .int .i64 0, .int .i64 0], .bool false]) (by simp [results, Try.results44, go_sem, j0, j1, jj2, j3]) rfl ⟨0, 0, 0, 0, false, rfl, ?_, below_far4 B6.out hsz⟩
          cases is2
          · exact ⟨_, _, _, _, ends_none HE.out, ends_none HE2.out, .inl ⟨rfl, .inl rfl, rfl, rfl, rfl, rfl⟩⟩
          · obtain ⟨a, b, _, _, _, h5⟩ := ends_within HE2.out
            exact ⟨_, _, _, _, ends_none HE.out, h5, .inl ⟨rfl, .inl rfl, rfl, rfl, rfl, rfl⟩⟩
        · cases is2
          · go_wp2_with fail
            refine bodyPost_ret (v := .tuple #[.agg #[.int .i64 0, .int .i64 0, .int .i64 0, .int .i64 0], .bool false]) (by simp [results, Try.results44, go_sem, j0, j1, jj2, j3]) rfl ⟨0, 0, 0, 0, false, rfl, ?_, below_far4 B6.out hsz⟩
            obtain ⟨a, b, _, _, _, h5⟩ := ends_within HE.out
            exact ⟨_, _, _, _, h5, ends_none HE2.out, .inl ⟨rfl, .inr rfl, rfl, rfl, rfl, rfl⟩⟩
          · go_wp2_with fail
            refine bodyPost_ret (v := .tuple #[.agg #[.int .i64 i2, .int .i64 i, .int .i64 (j2 - i2 + 1), .int .i64 (j - i + 1)], .bool true]) (by simp [results, Try.results44, go_sem, j0, j1, jj2, j3]) rfl ⟨i2, i, j2 - i2 + 1, j - i + 1, true, rfl, ?_, below_far4 B6.out hsz⟩
            obtain ⟨a, b, ha, hb, hab, h5⟩ := ends_within HE.out
            obtain ⟨a2, b2, ha2, hb2, hab2, h52⟩ := ends_within HE2.out
            exact ⟨_, _, _, _, h5, h52, .inr ⟨rfl, by omega, by omega, by omega, by omega, by omega⟩⟩

end Go.Proofs.Ytofcojcfcpfdmaa
namespace Go.Proofs.Ytofcojcfcpfdmaa
open Go.RowKit
set_option linter.unusedSimpArgs false
set_option linter.unusedVariables false

theorem boxis_nat {z : Nat → Bool} {W H : Nat} {X Y bw bh : Int} (h : BoxIs z W H X Y bw bh true) : ∃ x y p q : Nat, X = x ∧ Y = y ∧ bw = p ∧ bh = q ∧ x + p ≤ W ∧ y + q ≤ H ∧ 1 ≤ p ∧ 1 ≤ q := by
  rcases h with ⟨h, _⟩ | ⟨_, L, T, R, B, rfl, rfl, rfl, rfl, hb⟩
  · cases h
  · obtain ⟨h0, ⟨⟨j, hj, hz⟩, hL⟩, ⟨⟨j2, hj2, hz2⟩, hR⟩, ⟨⟨i3, hi3, hz3⟩, hT⟩, ⟨i4, hi4, hz4⟩, hB⟩ := hb
    have e1 := h0 L j hL hj hz
    have e2 := h0 i3 T hi3 hT hz3
    have e3 := h0 i4 B hi4 hB hz4
    exact ⟨L, T, R + 1 - L, B + 1 - T, rfl, rfl, by omega, by omega, by omega, by omega, by omega, by omega⟩

theorem bnd_q {a b : Int} {k : Nat} {z : Nat → Bool} {q : Bool} {X Y bw bh : Int} (h : (pageErr a b k ≠ 0 ∧ X = 0 ∧ Y = 0 ∧ bw = 0 ∧ bh = 0) ∨ (pageErr a b k = 0 ∧ BoxIs z a.toNat b.toNat X Y bw bh q)) : bndErr (pageErr a b k) q = bndErr (pageErr a b k) (anyInk z k) := by
  rcases h with ⟨h, _⟩ | ⟨hp, h⟩
  · unfold bndErr; rw [if_neg h, if_neg h]
  · obtain ⟨W, H, rfl, rfl, hn, hW1, _⟩ := page_nat hp
    rw [Int.toNat_natCast, Int.toNat_natCast] at h
    rw [box_any hW1 h, ← hn]

set_option maxHeartbeats 800000 in
set_option maxRecDepth 100000 in
theorem margins_bad (a b : Int) (s : Option Addr) (k c : Nat) (z : Nat → Bool) (w : World) (hs : IsBools w s k c z) (h : bndErr (pageErr a b k) (anyInk z k) ≠ 0) :
    Calls Try.prog 45 #[.agg #[.int .i64 a, .int .i64 b, .slice s k c]] w fun e w' => e = .returned (.tuple #[.agg #[.int .i64 0, .int .i64 0, .int .i64 0, .int .i64 0], .int .i64 (bndErr (pageErr a b k) (anyInk z k))]) ∧ Below w.heap.size w w' := by
  obtain ⟨v, hv⟩ : ∃ v, v = bndErr (pageErr a b k) (anyInk z k) := ⟨_, rfl⟩
  rw [← hv] at h ⊢
  have t1 : (v != 0) = true := by simpa using h
  have HV := Lib.hid hv
  have HS := Lib.hid hs
  clear hs h hv
  obtain ⟨w1, hw1⟩ : ∃ w1, w1 = (w.alloc (.cells #[.int .i64 a, .int .i64 b, .slice s k c] 40)).alloc (.cells #[.int .i64 0, .int .i64 0, .int .i64 0, .int .i64 0] 73) := ⟨_, rfl⟩
  have B1 : Below w.heap.size w w1 := by rw [hw1]; exact below_alloc (new_below _ _) _
  have qb : w1.heap[w.heap.size + 1]? = some (.cells #[.int .i64 0, .int .i64 0, .int .i64 0, .int .i64 0] 73 (0, 0)) := by
    rw [hw1]; simpa using heap_alloc_new (w.alloc (.cells #[.int .i64 a, .int .i64 b, .slice s k c] 40)) (.cells #[.int .i64 0, .int .i64 0, .int .i64 0, .int .i64 0] 73)
  go_enter Try.func45, Try.ntmps45
  go_wp2_with fail
  rw [← hw1]
  clear hw1
  refine (bounds_any a b s k c z w1 (isBools_later HS.out B1)).mono ?_
  rintro e w2 ⟨X, Y, bw, bh, q, rfl, hb, hb2⟩
  have hq := (bnd_q hb).trans HV.out.symm
  rw [hq]
  have G := Lib.hid (below_step B1 hb2)
  have QB2 := below_block hb2 qb
  have hsz : w.heap.size ≤ w.heap.size + 1 := by omega
  clear hb hb2 hq B1 qb
  go_upto_region 2 with (fail)
  obtain ⟨w3, hw3⟩ : ∃ w3, w3 = w2.alloc (.cells #[.int .i64 X, .int .i64 Y, .int .i64 bw, .int .i64 bh] 65) := ⟨_, rfl⟩
  have hb3 : Below w2.heap.size w2 w3 := by rw [hw3]; exact new_below _ _
  rw [← hw3]
  clear hw3
  have G3 := Lib.hid (below_step G.out hb3)
  obtain ⟨⟨j0, j1, j2, j3⟩, f0, f1, f2, f3⟩ := block4 (below_block hb3 QB2)
  clear hb3 QB2
  go_wp2_with fail
  exact bodyPost_ret (v := .tuple #[.agg #[.int .i64 0, .int .i64 0, .int .i64 0, .int .i64 0], .int .i64 v]) (by simp [results, Try.results45, go_sem, j0, j1, j2, j3]) rfl ⟨rfl, below_far4 G3.out hsz⟩

set_option maxHeartbeats 800000 in
set_option maxRecDepth 100000 in
theorem margins_ok (W H g o c : Nat) (z : Nat → Bool) (w : World) (hs : sizeErr W H = 0) (hi : anyInk z (W * H) = true) (hB : IsBools w (some ⟨g, o, none⟩) (W * H) c z) :
    Calls Try.prog 45 #[.agg #[.int .i64 W, .int .i64 H, .slice (some ⟨g, o, none⟩) (W * H) c]] w fun e w' =>
      ∃ X Y bw bh : Int, BoxIs z W H X Y bw bh true ∧ e = .returned (.tuple #[.agg #[.int .i64 X, .int .i64 Y, .int .i64 ((W : Int) - X - bw), .int .i64 ((H : Int) - Y - bh)], .int .i64 0]) ∧ Below w.heap.size w w' := by
  obtain ⟨⟨a1, a2, a3, a4⟩, a5, a6⟩ := sizeErr_zero hs
  have hpe : pageErr W H (W * H) = 0 := by unfold pageErr; rw [if_pos hs, if_pos (by simp [Int.natCast_mul])]
  have HB := Lib.hid hB
  have HPE := Lib.hid hpe
  have HI := Lib.hid hi
  clear hs hB hpe hi a5 a6
  obtain ⟨w1, hw1⟩ : ∃ w1, w1 = (w.alloc (.cells #[.int .i64 W, .int .i64 H, .slice (some ⟨g, o, none⟩) (W * H) c] 40)).alloc (.cells #[.int .i64 0, .int .i64 0, .int .i64 0, .int .i64 0] 73) := ⟨_, rfl⟩
  have B1 : Below w.heap.size w w1 := by rw [hw1]; exact below_alloc (new_below _ _) _
  have q1 : w1.heap[w.heap.size]? = some (.cells #[.int .i64 W, .int .i64 H, .slice (some ⟨g, o, none⟩) (W * H) c] 40 (0, 0)) := by rw [hw1, Below.heap_alloc _ _ _ (by simp)]; exact heap_alloc_new _ _
  have qb : w1.heap[w.heap.size + 1]? = some (.cells #[.int .i64 0, .int .i64 0, .int .i64 0, .int .i64 0] 73 (0, 0)) := by
    rw [hw1]; simpa using heap_alloc_new (w.alloc (.cells #[.int .i64 W, .int .i64 H, .slice (some ⟨g, o, none⟩) (W * H) c] 40)) (.cells #[.int .i64 0, .int .i64 0, .int .i64 0, .int .i64 0] 73)
  go_enter Try.func45, Try.ntmps45
  go_wp2_with fail
  rw [← hw1]
  clear hw1
  refine (bounds_any W H (some ⟨g, o, none⟩) (W * H) c z w1 (isBools_later HB.out B1)).mono ?_
  rintro e w2 ⟨X, Y, bw, bh, q, rfl, hb, hb2⟩
  have hq : q = true ∧ BoxIs z W H X Y bw bh true := by
    rcases hb with ⟨h, _⟩ | ⟨hp, h⟩
    · exact absurd HPE.out h
    · rw [Int.toNat_natCast, Int.toNat_natCast] at h
      have := box_any (by omega) h
      rw [HI.out] at this
      subst this
      exact ⟨rfl, h⟩
  obtain ⟨rfl, hbox⟩ := hq
  have hq0 : bndErr (pageErr W H (W * H)) true = 0 := by unfold bndErr; rw [if_pos HPE.out, if_pos rfl]
  rw [hq0]
  obtain ⟨x, y, p, q, e1, e2, e3, e4, e5, e6, e7, e8⟩ := boxis_nat hbox
  subst e1 e2 e3 e4
  have HBX := Lib.hid hbox
  have G := Lib.hid (below_step B1 hb2)
  have QB2 := below_block hb2 qb
  have Q2 := below_block hb2 q1
  have hsz : w.heap.size ≤ w.heap.size + 1 := by omega
  clear hb hb2 hq0 B1 qb q1 hbox
  go_upto_region 2 with (fail)
  obtain ⟨w3, hw3⟩ : ∃ w3, w3 = w2.alloc (.cells #[.int .i64 x, .int .i64 y, .int .i64 p, .int .i64 q] 65) := ⟨_, rfl⟩
  have hb3 : Below w2.heap.size w2 w3 := by rw [hw3]; exact new_below _ _
  have x3 : w3.heap[w2.heap.size]? = some (.cells #[.int .i64 x, .int .i64 y, .int .i64 p, .int .i64 q] 65 (0, 0)) := by rw [hw3]; exact heap_alloc_new _ _
  rw [← hw3]
  clear hw3
  have G3 := Lib.hid (below_step G.out hb3)
  obtain ⟨⟨j0, j1, j2, j3⟩, f0, f1, f2, f3⟩ := block4 (below_block hb3 QB2)
  obtain ⟨p0, p1, p2, _, _, _⟩ := block3 (below_block hb3 Q2)
  obtain ⟨⟨s0, s1, s2, s3⟩, _, _, _, _⟩ := block4 x3
  clear hb3 QB2 Q2 x3
  go_wp2_with fail
  exact bodyPost_ret (v := .tuple #[.agg #[.int .i64 x, .int .i64 y, .int .i64 ((W : Int) - x - p), .int .i64 ((H : Int) - y - q)], .int .i64 0]) (by simp [results, Try.results45, go_sem, j0, j1, j2, j3]) rfl ⟨_, _, _, _, HBX.out, rfl, below_far4 G3.out hsz⟩

end Go.Proofs.Ytofcojcfcpfdmaa
namespace Go.Proofs.Ytofcojcfcpfdmaa
open Go.RowKit
set_option linter.unusedSimpArgs false
set_option linter.unusedVariables false

/-- The error of Centre. -/
def cenErr (E S : Int) (q : Bool) : Int := if E = 0 then (if S = 0 then (if q then 0 else 10) else S) else E

set_option maxHeartbeats 1000000 in
set_option maxRecDepth 100000 in
theorem centre_bad (a b m n : Int) (s : Option Addr) (k c : Nat) (z : Nat → Bool) (w : World) (hs : IsBools w s k c z) (h : cenErr (pageErr a b k) (sizeErr m n) (anyInk z k) ≠ 0) :
    Calls Try.prog 47 #[.agg #[.int .i64 a, .int .i64 b, .slice s k c], .int .i64 m, .int .i64 n] w fun e w' => e = .returned (.tuple #[.agg #[.int .i64 0, .int .i64 0, .slice none 0 0], .int .i64 (cenErr (pageErr a b k) (sizeErr m n) (anyInk z k))]) ∧ Below w.heap.size w w' := by
  by_cases hE : pageErr a b k = 0
  · have t1 : (pageErr a b k != 0) = false := by simpa using hE
    by_cases hS : sizeErr m n = 0
    · have hv : cenErr (pageErr a b k) (sizeErr m n) (anyInk z k) = bndErr (pageErr a b k) (anyInk z k) := by unfold cenErr bndErr; rw [if_pos hE, if_pos hS, if_pos hE]
      rw [hv] at h ⊢
      have hv10 : bndErr (pageErr a b k) (anyInk z k) = 10 := by
        unfold bndErr at h ⊢
        rw [if_pos hE] at h ⊢
        cases hi : anyInk z k
        · rfl
        · rw [hi] at h; exact absurd rfl h
      rw [hv10]
      obtain ⟨w1, hw1⟩ : ∃ w1, w1 = ((w.alloc (.cells #[.int .i64 a, .int .i64 b, .slice s k c] 40)).alloc (.cells #[.int .i64 0, .int .i64 0, .slice none 0 0] 40)).alloc (.cells #[.int .i64 a, .int .i64 b, .slice s k c] 40) := ⟨_, rfl⟩
      have B1 : Below w.heap.size w w1 := by rw [hw1]; exact below_alloc (below_alloc (new_below _ _) _) _
      have q1 : w1.heap[w.heap.size]? = some (.cells #[.int .i64 a, .int .i64 b, .slice s k c] 40 (0, 0)) := by rw [hw1, Below.heap_alloc _ _ _ (by simp; omega), Below.heap_alloc _ _ _ (by simp)]; exact heap_alloc_new _ _
      have qb : w1.heap[w.heap.size + 1]? = some (.cells #[.int .i64 0, .int .i64 0, .slice none 0 0] 40 (0, 0)) := by
        rw [hw1, Below.heap_alloc _ _ _ (by simp)]
        simpa using heap_alloc_new (w.alloc (.cells #[.int .i64 a, .int .i64 b, .slice s k c] 40)) (.cells #[.int .i64 0, .int .i64 0, .slice none 0 0] 40)
      have HS := Lib.hid hs
      have HZ := Lib.hid hS
      have HV := Lib.hid hv10
      clear hs hS h hv hv10 hE
      go_enter Try.func47, Try.ntmps47
      go_wp2_with ((go_at_call 25; refine (checkBits_any _ _ _ _ _ _).mono ?_; rintro e w' ⟨rfl, rfl⟩))
      rw [← hw1]
      clear hw1
      refine (blank_ok m n w1 HZ.out).mono ?_
      rintro e w2 ⟨v2, N2, rfl, hN2, hown2, hb2⟩
      obtain ⟨g2, c2, rfl⟩ : ∃ g2 c2, v2 = .slice (some ⟨g2, 0, none⟩) N2 c2 := by
        have hd := hown2.2
        rcases hd with ⟨_, h0⟩ | ⟨g2, c2, cur, h0, hgg, _⟩
        · obtain ⟨⟨m1, m2, n1, n2⟩, _, _⟩ := sizeErr_zero HZ.out
          have := Int.mul_le_mul m1 n1 (by omega) (by omega)
          omega
        · exact ⟨g2, c2, h0⟩
      have B2 := below_step B1 hb2
      have Q2 := below_block hb2 q1
      have QB2 := below_block hb2 qb
      clear hb2 hown2 hN2 B1 q1 qb
      go_upto_region 5 with (fail)
      obtain ⟨w3, hw3⟩ : ∃ w3, w3 = w2.alloc (.cells #[.int .i64 m, .int .i64 n, .slice (some ⟨g2, 0, none⟩) N2 c2] 40) := ⟨_, rfl⟩
      have hb3 : Below w2.heap.size w2 w3 := by rw [hw3]; exact new_below _ _
      rw [← hw3]
      clear hw3
      have B3 := below_step B2 hb3
      obtain ⟨p0, p1, p2, _, _, _⟩ := block3 (below_block hb3 Q2)
      have QB3 := below_block hb3 QB2
      clear hb3 B2 Q2 QB2
      go_wp2_with fail
      refine (bounds_any a b s k c z w3 (isBools_later HS.out B3)).mono ?_
      rintro e w4 ⟨X, Y, bw, bh, q, rfl, hb, hb4⟩
      rw [(bnd_q hb).trans HV.out]
      have QB4 := below_block hb4 QB3
      have B4 := below_step B3 hb4
      have hsz : w.heap.size ≤ w.heap.size + 1 := by omega
      clear hb hb4 B3 QB3 p0 p1 p2
      go_upto_region 8 with (fail)
      obtain ⟨w5, hw5⟩ : ∃ w5, w5 = w4.alloc (.cells #[.int .i64 X, .int .i64 Y, .int .i64 bw, .int .i64 bh] 65) := ⟨_, rfl⟩
      have hb5 : Below w4.heap.size w4 w5 := by rw [hw5]; exact new_below _ _
      rw [← hw5]
      clear hw5
      have G := Lib.hid (below_step B4 hb5)
      obtain ⟨j0, j1, j2, f0, f1, f2⟩ := block3 (below_block hb5 QB4)
      clear hb5 QB4 B4
      go_wp2_with fail
      exact bodyPost_ret (v := .tuple #[.agg #[.int .i64 0, .int .i64 0, .slice none 0 0], .int .i64 10]) (by simp [results, Try.results47, go_sem, j0, j1, j2]) rfl ⟨rfl, below_far3 G.out hsz⟩
    · have t2 : (sizeErr m n != 0) = true := by simpa using hS
      have hv : cenErr (pageErr a b k) (sizeErr m n) (anyInk z k) = sizeErr m n := by unfold cenErr; rw [if_pos hE, if_neg hS]
      rw [hv]
      obtain ⟨w1, hw1⟩ : ∃ w1, w1 = ((w.alloc (.cells #[.int .i64 a, .int .i64 b, .slice s k c] 40)).alloc (.cells #[.int .i64 0, .int .i64 0, .slice none 0 0] 40)).alloc (.cells #[.int .i64 a, .int .i64 b, .slice s k c] 40) := ⟨_, rfl⟩
      have B1 : Below w.heap.size w w1 := by rw [hw1]; exact below_alloc (below_alloc (new_below _ _) _) _
      have qb : w1.heap[w.heap.size + 1]? = some (.cells #[.int .i64 0, .int .i64 0, .slice none 0 0] 40 (0, 0)) := by
        rw [hw1, Below.heap_alloc _ _ _ (by simp)]
        simpa using heap_alloc_new (w.alloc (.cells #[.int .i64 a, .int .i64 b, .slice s k c] 40)) (.cells #[.int .i64 0, .int .i64 0, .slice none 0 0] 40)
      have HZ := Lib.hid hS
      clear hs hS h hv hE
      go_enter Try.func47, Try.ntmps47
      go_wp2_with ((go_at_call 25; refine (checkBits_any _ _ _ _ _ _).mono ?_; rintro e w' ⟨rfl, rfl⟩))
      rw [← hw1]
      clear hw1
      refine (blank_err m n w1 HZ.out).mono ?_
      rintro e w2 ⟨rfl, hb2⟩
      have QB2 := below_block hb2 qb
      have B2 := below_step B1 hb2
      have hsz : w.heap.size ≤ w.heap.size + 1 := by omega
      clear hb2 B1 qb
      go_upto_region 5 with (fail)
      obtain ⟨w3, hw3⟩ : ∃ w3, w3 = w2.alloc (.cells #[.int .i64 0, .int .i64 0, .slice none 0 0] 40) := ⟨_, rfl⟩
      have hb3 : Below w2.heap.size w2 w3 := by rw [hw3]; exact new_below _ _
      rw [← hw3]
      clear hw3
      have G := Lib.hid (below_step B2 hb3)
      obtain ⟨j0, j1, j2, f0, f1, f2⟩ := block3 (below_block hb3 QB2)
      clear hb3 QB2 B2
      go_wp2_with fail
      exact bodyPost_ret (v := .tuple #[.agg #[.int .i64 0, .int .i64 0, .slice none 0 0], .int .i64 (sizeErr m n)]) (by simp [results, Try.results47, go_sem, j0, j1, j2]) rfl ⟨rfl, below_far3 G.out hsz⟩
  · have t1 : (pageErr a b k != 0) = true := by simpa using hE
    have hv : cenErr (pageErr a b k) (sizeErr m n) (anyInk z k) = pageErr a b k := by unfold cenErr; rw [if_neg hE]
    rw [hv]
    clear h hv hE hs
    go_enter Try.func47, Try.ntmps47
    go_wp2_with ((go_at_call 25; refine (checkBits_any _ _ _ _ _ _).mono ?_; rintro e w' ⟨rfl, rfl⟩))
    refine bodyPost_ret (v := .tuple #[.agg #[.int .i64 0, .int .i64 0, .slice none 0 0], .int .i64 (pageErr a b k)]) (by simp [results, Try.results47, go_sem]) rfl ⟨rfl, ?_⟩
    exact below_alloc (below_alloc (new_below _ _) _) _

/-- The page with the ink in its middle. -/
def cenZ (m n p q X Y W : Nat) (z : Nat → Bool) (k : Nat) : Bool := pasteAt m p q (((m : Int) - p) / 2) (((n : Int) - q) / 2) (fun _ => false) (fun j => z ((Y + j / p) * W + X + j % p)) (k % m) (k / m)

set_option maxHeartbeats 2000000 in
set_option maxRecDepth 100000 in
theorem centre_ok (W H g o c m n : Nat) (z : Nat → Bool) (w : World) (hs : sizeErr W H = 0) (hmn : sizeErr m n = 0) (hi : anyInk z (W * H) = true) (hp : ∀ j, j < W * H → w.cell? ⟨g, o + j, none⟩ = some (.bool (z j))) (hB : IsBools w (some ⟨g, o, none⟩) (W * H) c z) :
    Calls Try.prog 47 #[.agg #[.int .i64 W, .int .i64 H, .slice (some ⟨g, o, none⟩) (W * H) c], .int .i64 m, .int .i64 n] w fun e w' =>
      ∃ X Y p q g' c' : Nat, BoxIs z W H X Y p q true ∧ e = .returned (.tuple #[.agg #[.int .i64 m, .int .i64 n, .slice (some ⟨g', 0, none⟩) (m * n) c'], .int .i64 0]) ∧
        (∀ k, k < m * n → w'.cell? ⟨g', 0 + k, none⟩ = some (.bool (cenZ m n p q X Y W z k))) ∧ Below w.heap.size w w' := by
  obtain ⟨⟨a1, a2, a3, a4⟩, a5, a6⟩ := sizeErr_zero hs
  obtain ⟨⟨b1, b2, b3, b4⟩, b5, b6⟩ := sizeErr_zero hmn
  have hpe : pageErr W H (W * H) = 0 := by unfold pageErr; rw [if_pos hs, if_pos (by simp [Int.natCast_mul])]
  have t1 : (pageErr W H (W * H) != 0) = false := by simpa using hpe
  obtain ⟨w1, hw1⟩ : ∃ w1, w1 = ((w.alloc (.cells #[.int .i64 W, .int .i64 H, .slice (some ⟨g, o, none⟩) (W * H) c] 40)).alloc (.cells #[.int .i64 0, .int .i64 0, .slice none 0 0] 40)).alloc (.cells #[.int .i64 W, .int .i64 H, .slice (some ⟨g, o, none⟩) (W * H) c] 40) := ⟨_, rfl⟩
  have B1 : Below w.heap.size w w1 := by rw [hw1]; exact below_alloc (below_alloc (new_below _ _) _) _
  have q1 : w1.heap[w.heap.size]? = some (.cells #[.int .i64 W, .int .i64 H, .slice (some ⟨g, o, none⟩) (W * H) c] 40 (0, 0)) := by rw [hw1, Below.heap_alloc _ _ _ (by simp; omega), Below.heap_alloc _ _ _ (by simp)]; exact heap_alloc_new _ _
  have qb : w1.heap[w.heap.size + 1]? = some (.cells #[.int .i64 0, .int .i64 0, .slice none 0 0] 40 (0, 0)) := by
    rw [hw1, Below.heap_alloc _ _ _ (by simp)]
    simpa using heap_alloc_new (w.alloc (.cells #[.int .i64 W, .int .i64 H, .slice (some ⟨g, o, none⟩) (W * H) c] 40)) (.cells #[.int .i64 0, .int .i64 0, .slice none 0 0] 40)
  have HB := Lib.hid hB
  have HC := Lib.hid hp
  have HS := Lib.hid hs
  have HM := Lib.hid hmn
  have HI := Lib.hid hi
  have HPE := Lib.hid hpe
  clear hs hp hB hmn hi hpe a5 a6 b5 b6
  go_enter Try.func47, Try.ntmps47
  go_wp2_with ((go_at_call 25; refine (checkBits_any _ _ _ _ _ _).mono ?_; rintro e w' ⟨rfl, rfl⟩))
  rw [← hw1]
  clear hw1
  refine (blank_ok m n w1 HM.out).mono ?_
  rintro e w2 ⟨v2, N2, rfl, hN2, hown2, hb2⟩
  obtain rfl : N2 = m * n := by rw [← Int.natCast_mul] at hN2; exact Int.ofNat.inj hN2
  obtain ⟨g2, c2, rfl, hz2⟩ : ∃ g2 c2, v2 = .slice (some ⟨g2, 0, none⟩) (m * n) c2 ∧ ∀ j, j < m * n → w2.cell? ⟨g2, 0 + j, none⟩ = some (.bool ((fun _ => false) j)) := by
    have hpos : 0 < m * n := Nat.mul_pos (by omega) (by omega)
    have hd := hown2.2
    rcases hd with ⟨_, h0⟩ | ⟨g2, c2, cur, h0, hgg, _⟩
    · omega
    · subst h0
      exact ⟨g2, c2, rfl, fun j hj => by rw [Nat.zero_add, hown2.cellAt j (by omega), List.getElem?_replicate, if_pos hj]⟩
  have B2 := below_step B1 hb2
  have Q2 := below_block hb2 q1
  have QB2 := below_block hb2 qb
  clear hb2 hown2 hN2 B1 q1 qb
  go_upto_region 5 with (fail)
  obtain ⟨w3, hw3⟩ : ∃ w3, w3 = w2.alloc (.cells #[.int .i64 m, .int .i64 n, .slice (some ⟨g2, 0, none⟩) (m * n) c2] 40) := ⟨_, rfl⟩
  have hb3 : Below w2.heap.size w2 w3 := by rw [hw3]; exact new_below _ _
  have e3 : w3.heap[w2.heap.size]? = some (.cells #[.int .i64 m, .int .i64 n, .slice (some ⟨g2, 0, none⟩) (m * n) c2] 40 (0, 0)) := by rw [hw3]; exact heap_alloc_new _ _
  obtain ⟨eb, heb⟩ : ∃ eb, eb = w2.heap.size := ⟨_, rfl⟩
  have hsz2 := B2.size
  rw [← hw3, ← heb]
  rw [← heb] at e3
  clear hw3
  have B3 := below_step B2 hb3
  have Q3 := below_block hb3 Q2
  obtain ⟨p0, p1, p2, _, _, _⟩ := block3 Q3
  have QB3 := below_block hb3 QB2
  have hlq := (Array.getElem?_eq_some_iff.1 QB2).1
  have HEB := Lib.hid (show w.heap.size + 1 < eb by omega)
  have Z3 := Lib.hid (fun j hj => cell_later hb3 (hz2 j hj))
  clear hb3 B2 Q2 QB2 hz2 heb hlq hsz2
  go_wp2_with fail
  refine (bounds_any W H (some ⟨g, o, none⟩) (W * H) c z w3 (isBools_later HB.out B3)).mono ?_
  rintro e w4 ⟨X, Y, bw, bh, q, rfl, hb, hb4⟩
  have hq : q = true ∧ BoxIs z W H X Y bw bh true := by
    rcases hb with ⟨h, _⟩ | ⟨hp, h⟩
    · exact absurd HPE.out h
    · rw [Int.toNat_natCast, Int.toNat_natCast] at h
      have := box_any (by omega) h
      rw [HI.out] at this
      subst this
      exact ⟨rfl, h⟩
  obtain ⟨rfl, hbox⟩ := hq
  have hq0 : bndErr (pageErr W H (W * H)) true = 0 := by unfold bndErr; rw [if_pos HPE.out, if_pos rfl]
  rw [hq0]
  obtain ⟨x, y, bp, bq, e1, e2, e3', e4, e5, e6, e7, e8⟩ := boxis_nat hbox
  subst e1 e2 e3' e4
  have HBX := Lib.hid hbox
  have B4 := below_step B3 hb4
  have Q4 := below_block hb4 Q3
  have QB4 := below_block hb4 QB3
  have QB4a := Lib.hid QB4
  have E4 := below_block hb4 e3
  have Z4 := Lib.hid (fun j hj => cell_later hb4 (Z3.out j hj))
  clear hb hb4 hq0 B3 Q3 QB3 e3 Z3 hbox p0 p1 p2
  go_upto_region 8 with (fail)
  obtain ⟨w5, hw5⟩ : ∃ w5, w5 = w4.alloc (.cells #[.int .i64 x, .int .i64 y, .int .i64 bp, .int .i64 bq] 65) := ⟨_, rfl⟩
  have hb5 : Below w4.heap.size w4 w5 := by rw [hw5]; exact new_below _ _
  have x5 : w5.heap[w4.heap.size]? = some (.cells #[.int .i64 x, .int .i64 y, .int .i64 bp, .int .i64 bq] 65 (0, 0)) := by rw [hw5]; exact heap_alloc_new _ _
  rw [← hw5]
  clear hw5
  have B5 := below_step B4 hb5
  obtain ⟨p0, p1, p2, _, _, _⟩ := block3 (below_block hb5 Q4)
  obtain ⟨⟨s0, s1, s2, s3⟩, _, _, _, _⟩ := block4 x5
  have QB5 := below_block hb5 QB4
  have E5 := below_block hb5 E4
  have Z5 := Lib.hid (fun j hj => cell_later hb5 (Z4.out j hj))
  clear hb5 B4 Q4 QB4 E4 Z4
  go_wp2_with fail
  refine (cut_ok W H x y bp bq g o (W * H) c z w5 HS.out rfl e5 e6 e7 e8 (fun j hj => cell_later B5 (HC.out j hj))).mono ?_
  rintro e w6 ⟨v6, rfl, hown6, hb6⟩
  obtain ⟨g6, c6, rfl, _, hz6⟩ := owns_pageB hown6 (Nat.mul_pos e7 e8)
  have B6 := below_step B5 hb6
  have HL4 := Lib.hid (show w.heap.size + 1 < w4.heap.size from (Array.getElem?_eq_some_iff.1 QB4a.out).1)
  have HL6 := Lib.hid (show w.heap.size + 1 < w6.heap.size from (Array.getElem?_eq_some_iff.1 (below_block hb6 QB5)).1)
  have X6 := below_block hb6 x5
  have QB6 := below_block hb6 QB5
  have E6 := below_block hb6 E5
  have Z6 := Lib.hid (fun j hj => cell_later hb6 (Z5.out j hj))
  have Y6 := Lib.hid hz6
  clear hb6 hown6 hz6 B5 x5 QB5 E5 Z5 p0 p1 p2 s0 s1 s2 s3
  go_upto_region 11 with (fail)
  obtain ⟨w7, hw7⟩ : ∃ w7, w7 = w6.alloc (.cells #[.int .i64 bp, .int .i64 bq, .slice (some ⟨g6, 0, none⟩) (bp * bq) c6] 40) := ⟨_, rfl⟩
  have hb7 : Below w6.heap.size w6 w7 := by rw [hw7]; exact new_below _ _
  have x7 : w7.heap[w6.heap.size]? = some (.cells #[.int .i64 bp, .int .i64 bq, .slice (some ⟨g6, 0, none⟩) (bp * bq) c6] 40 (0, 0)) := by rw [hw7]; exact heap_alloc_new _ _
  rw [← hw7]
  clear hw7
  have B7 := Lib.hid (below_step B6 hb7)
  obtain ⟨⟨s0, s1, s2, s3⟩, _, _, _, _⟩ := block4 (below_block hb7 X6)
  obtain ⟨u0, u1, u2, _, _, _⟩ := block3 (below_block hb7 E6)
  obtain ⟨c0, c1, c2', _, _, _⟩ := block3 x7
  have QB7 := Lib.hid (below_block hb7 QB6)
  have Z7 := Lib.hid (fun j hj => cell_later hb7 (Z6.out j hj))
  have Y7 := Lib.hid (fun j hj => cell_later hb7 (Y6.out j hj))
  have hbs : sizeErr bp bq = 0 := by
    obtain ⟨_, _, hh⟩ := sizeErr_zero HS.out
    have h1 : bp * bq ≤ W * H := Nat.mul_le_mul (by omega) (by omega)
    unfold sizeErr
    rw [if_neg (by omega), if_neg (by rw [← Int.natCast_mul] at hh ⊢; omega)]
  have HBS := Lib.hid hbs
  have d1 : -10000 ≤ (m : Int) - bp ∧ (m : Int) - bp ≤ 10000 := by omega
  have d2 : -10000 ≤ (n : Int) - bq ∧ (n : Int) - bq ≤ 10000 := by omega
  have HD1 := Lib.hid d1
  have HD2 := Lib.hid d2
  have w1e : IntKind.i64.wrap ((m : Int) - bp) = (m : Int) - bp := IntWalk.i64_in _ (by omega)
  have w2e : IntKind.i64.wrap ((n : Int) - bq) = (n : Int) - bq := IntWalk.i64_in _ (by omega)
  clear hb7 x7 B6 X6 QB6 E6 Z6 Y6 d1 d2 hbs
  obtain ⟨j0, j1, j2, f0, f1, f2⟩ := block3 QB7.out
  go_upto_region 13 with (fail)
  have ne1 : eb ≠ w.heap.size + 1 := by have := HEB.out; omega
  have ne2 : w6.heap.size ≠ w.heap.size + 1 := by have := HL6.out; omega
  have ne3 : w4.heap.size ≠ w.heap.size + 1 := by have := HL4.out; omega
  have ne1' : w.heap.size + 1 ≠ eb := ne1.symm
  have ne2' : w.heap.size + 1 ≠ w6.heap.size := ne2.symm
  have ne3' : w.heap.size + 1 ≠ w4.heap.size := ne3.symm
  go_region_held3 (fun w' => w'.cell? ⟨eb, 0, none⟩ = some (.int .i64 m) ∧ w'.cell? ⟨eb, 1, none⟩ = some (.int .i64 n) ∧ w'.cell? ⟨eb, 2, none⟩ = some (.slice (some ⟨g2, 0, none⟩) (m * n) c2) ∧
      w'.cell? ⟨w6.heap.size, 0, none⟩ = some (.int .i64 bp) ∧ w'.cell? ⟨w6.heap.size, 1, none⟩ = some (.int .i64 bq) ∧ w'.cell? ⟨w6.heap.size, 2, none⟩ = some (.slice (some ⟨g6, 0, none⟩) (bp * bq) c6) ∧
      w'.cell? ⟨w4.heap.size, 2, none⟩ = some (.int .i64 bp) ∧ w'.cell? ⟨w4.heap.size, 3, none⟩ = some (.int .i64 bq))
    (first | (go_keep; done) | (go_split_ands; exact ⟨cell_later hb9 (by assumption), cell_later hb9 (by assumption), cell_later hb9 (by assumption), cell_later hb9 (by assumption), cell_later hb9 (by assumption), cell_later hb9 (by assumption), cell_later hb9 (by assumption), cell_later hb9 (by assumption)⟩))
    ((first | (go_at_call 103; ((with_reducible refine (halfDown_any ((m : Int) - bp) _ HD1.out).mono ?_); rintro e w' ⟨rfl, rfl⟩)) | (go_at_call 103; ((with_reducible refine (halfDown_any ((n : Int) - bq) _ HD2.out).mono ?_); rintro e w' ⟨rfl, rfl⟩)) | (go_at_call 26; ((with_reducible refine (paste_ok m n bp bq (m * n) (bp * bq) g2 0 c2 g6 0 c6 (((m : Int) - bp) / 2) (((n : Int) - bq) / 2) (fun _ => false) (fun j => z ((y + j / bp) * W + x + j % bp)) w7.drew HM.out HBS.out rfl rfl (fun j hj => cell_later (Below.refl _ _).drew (Z7.out j hj)) (fun j hj => cell_later (Below.refl _ _).drew (Y7.out j hj))).mono ?_); rintro e w9 ⟨gp, cp, rfl, hgp9, hz9, hb9⟩; obtain ⟨k0, k1, k2, g0, g1, g2'⟩ := block3 (below_block hb9 (show w7.drew.heap[w.heap.size + 1]? = _ from QB7.out)); have HZ9 := Lib.hid hz9; have HGP9 := Lib.hid hgp9; clear hz9 hgp9))))
  have G := Lib.hid (below_step B7.out (below_step (Below.refl _ _).drew hb9))
  have hgn : gp ≠ w.heap.size + 1 := by
    have h1 := (Array.getElem?_eq_some_iff.1 QB7.out).1
    have h2 : w7.heap.size ≤ gp := HGP9.out
    omega
  have hsz : w.heap.size ≤ w.heap.size + 1 := by omega
  clear hb9 Z7 Y7 QB7 B7
  go_wp2_with fail
  refine bodyPost_ret (v := .tuple #[.agg #[.int .i64 m, .int .i64 n, .slice (some ⟨gp, 0, none⟩) (m * n) cp], .int .i64 0]) (by simp [results, Try.results47, go_sem, k0, k1, k2]) rfl ⟨x, y, bp, bq, gp, cp, HBX.out, rfl, fun k hk => ?_, ?_⟩
  · exact cell_far3 hgn (HZ9.out k hk)
  · exact below_far3 G.out hsz

end Go.Proofs.Ytofcojcfcpfdmaa
