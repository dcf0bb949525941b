/-
  CountsMatch returns true for all arguments, and each argument reads afterwards as it read before. No conditions.
-/
import Derived.Test.YtcpgnfbjdokdcaaRows
import Derived.WalkKit
import Derived.WalkSpells
import Derived.WalkLawsBesides
import Derived.Lib.Hide
import Derived.Deep.RegionHeld3
import Derived.Shelf.Abstract
import Derived.Deep.AppendLies
import Derived.Deep.DrawnRows
import Derived.Deep.RegionLaw
import Derived.Deep.QuietTactic
import Derived.BigQuiet
import Derived.ProofKit
import Derived.OpenShut
import Derived.ShutString
import Derived.ChangeOld
import Derived.Lib.SmallJoins
import Derived.Deep.Grids
import Derived.Deep.DeepCutAuto
import Derived.Lib.MinMax
import Derived.Deep.CutRange
import Derived.Laws.EntriesVeiled
import Derived.StillTailTactics
import Derived.Test.YtcpgnfbjdokdcaaCCounts5
namespace Go.Proofs.Ytcpgnfbjdokdcaa
open Go.RowKit
set_option linter.unusedSimpArgs false
set_option linter.unusedVariables false

set_option maxHeartbeats 4000000 in
set_option maxRecDepth 100000 in
theorem count_walk (a1 b1 : Int) (s1 : Option Addr) (n1 c1 : Nat) (zs : List Int) (a2 b2 : Int) (s2 : Option Addr) (n2 c2 : Nat) (z : Nat → Bool) (a3 b3 : Int) (s3 : Option Addr) (n3 c3 : Nat) (y : Nat → Bool) (lv X Y bw bh : Int) (w : World)
    (hs1 : IsBytes w s1 n1 c1 zs) (hs2 : IsBools w s2 n2 c2 z) (hs3 : IsBools w s3 n3 c3 y) :
    Calls Try.prog 6 #[.agg #[.int .i64 a1, .int .i64 b1, .slice s1 n1 c1], .agg #[.int .i64 a2, .int .i64 b2, .slice s2 n2 c2], .agg #[.int .i64 a3, .int .i64 b3, .slice s3 n3 c3], .int .i64 lv, .agg #[.int .i64 X, .int .i64 Y, .int .i64 bw, .int .i64 bh]] w fun e w' => e = .returned (.bool true) ∧ Below w.heap.size w w' := by
  have HS1 := Lib.hid hs1
  have HS2 := Lib.hid hs2
  have HS3 := Lib.hid hs3
  clear hs1 hs2 hs3
  obtain ⟨w0, hw0⟩ : ∃ w0, w0 = ((((w.alloc (.cells #[.int .i64 a1, .int .i64 b1, .slice s1 n1 c1] 27)).alloc (.cells #[.int .i64 a2, .int .i64 b2, .slice s2 n2 c2] 24)).alloc (.cells #[.int .i64 a3, .int .i64 b3, .slice s3 n3 c3] 24)).alloc (.cells #[.int .i64 lv] 3)).alloc (.cells #[.int .i64 X, .int .i64 Y, .int .i64 bw, .int .i64 bh] 29) := ⟨_, rfl⟩
  have B0 := Lib.hid (show Below w.heap.size w w0 by rw [hw0]; exact below_alloc (below_alloc (below_alloc (below_alloc (new_below _ _) _) _) _) _)
  have T0 := Lib.hid (show BoxesC w.heap.size a1 b1 s1 n1 c1 a2 b2 s2 n2 c2 a3 b3 s3 n3 c3 lv X Y bw bh w0 by
    rw [hw0]
    refine ⟨⟨?_, ?_, ?_⟩, ⟨?_, ?_, ?_⟩, ⟨?_, ?_, ?_⟩, ?_, ?_, ?_, ?_, ?_⟩ <;> go_simp)
  go_enter Try.func6, Try.ntmps6
  go_upto_region 1 with fail
  rw [← hw0]
  clear hw0
  go_cut [54] from 31 to 53 (fun t wx => ∃ q, t = .bool q ∧ Hid (BoxesC w.heap.size a1 b1 s1 n1 c1 a2 b2 s2 n2 c2 a3 b3 s3 n3 c3 lv X Y bw bh wx ∧ Below w.heap.size w wx))
  case first =>
    obtain ⟨⟨k0, k1, k2⟩, ⟨k3, k4, k5⟩, -⟩ := T0.out
    go_wp2_with fail
    refine (grayError_any a1 b1 s1 n1 c1 w0).mono ?_
    rintro e wa ⟨rfl, hba⟩
    have HTa := Lib.hid (T0.out.later hba)
    have BA := Lib.hid (below_step B0.out hba)
    clear hba B0 T0 k0 k1 k2 k3 k4 k5
    obtain ⟨⟨k0, k1, k2⟩, ⟨k3, k4, k5⟩, -⟩ := HTa.out
    have l0 := World.block_lt_of_cell? _ _ k0
    have l1 := World.block_lt_of_cell? _ _ k3
    simp only at l0 l1
    by_cases hE1 : pageErr a1 b1 n1 = 0
    · have hsz := (page_parts hE1).1
      have hE1b : (pageErr a1 b1 n1 == 0) = true := by simpa using hE1
      clear hE1
      go_wp2_with fail
      refine (small_any a1 b1 _ hsz).mono ?_
      rintro e wq ⟨q, rfl, rfl⟩
      cases q
      · go_wp2_with fail
        go_meet
        case rel => exact ⟨_, rfl, Lib.hid ⟨HTa.out, BA.out⟩⟩
      · go_wp2_with fail
        refine (bitsError_any a2 b2 s2 n2 c2 _).mono ?_
        rintro e wb ⟨rfl, hbb⟩
        have HTb := Lib.hid (HTa.out.later hbb)
        have BB := Lib.hid (below_step BA.out hbb)
        clear hbb k0 k1 k2 k3 k4 k5 l0 l1
        obtain ⟨⟨k0, k1, k2⟩, ⟨k3, k4, k5⟩, -⟩ := HTb.out
        have l1 := World.block_lt_of_cell? _ _ k3
        simp only at l1
        by_cases hE2 : pageErr a2 b2 n2 = 0
        · have hsz2 := (page_parts hE2).1
          have hE2b : (pageErr a2 b2 n2 == 0) = true := by simpa using hE2
          clear hE2
          go_wp2_with fail
          refine (small_any a2 b2 _ hsz2).mono ?_
          rintro e wq ⟨q, rfl, rfl⟩
          cases q
          · go_wp2_with fail
            go_meet
            case rel => exact ⟨_, rfl, Lib.hid ⟨HTb.out, BB.out⟩⟩
          · go_wp2_with fail
            go_meet
            case rel => exact ⟨_, rfl, Lib.hid ⟨HTb.out, BB.out⟩⟩
        · have hE2b : (pageErr a2 b2 n2 == 0) = false := by simpa using hE2
          clear hE2
          go_wp2_with fail
          go_meet
          case rel => exact ⟨_, rfl, Lib.hid ⟨HTb.out, BB.out⟩⟩
    · have hE1b : (pageErr a1 b1 n1 == 0) = false := by simpa using hE1
      clear hE1
      go_wp2_with fail
      refine (bitsError_any a2 b2 s2 n2 c2 _).mono ?_
      rintro e wb ⟨rfl, hbb⟩
      have HTb := Lib.hid (HTa.out.later hbb)
      have BB := Lib.hid (below_step BA.out hbb)
      clear hbb k0 k1 k2 k3 k4 k5 l0 l1
      obtain ⟨⟨k0, k1, k2⟩, ⟨k3, k4, k5⟩, -⟩ := HTb.out
      have l1 := World.block_lt_of_cell? _ _ k3
      simp only at l1
      by_cases hE2 : pageErr a2 b2 n2 = 0
      · have hsz2 := (page_parts hE2).1
        have hE2b : (pageErr a2 b2 n2 == 0) = true := by simpa using hE2
        clear hE2
        go_wp2_with fail
        refine (small_any a2 b2 _ hsz2).mono ?_
        rintro e wq ⟨q, rfl, rfl⟩
        cases q
        · go_wp2_with fail
          go_meet
          case rel => exact ⟨_, rfl, Lib.hid ⟨HTb.out, BB.out⟩⟩
        · go_wp2_with fail
          go_meet
          case rel => exact ⟨_, rfl, Lib.hid ⟨HTb.out, BB.out⟩⟩
      · have hE2b : (pageErr a2 b2 n2 == 0) = false := by simpa using hE2
        clear hE2
        go_wp2_with fail
        go_meet
        case rel => exact ⟨_, rfl, Lib.hid ⟨HTb.out, BB.out⟩⟩
  case rest =>
    obtain ⟨q, rfl, HF⟩ := hcut
    obtain ⟨wf, rfl⟩ : ∃ wf, wf = wc := ⟨_, rfl⟩
    have HTf := Lib.hid HF.out.1
    have BF := Lib.hid HF.out.2
    clear HF T0 B0
    cases q
    case true =>
      go_wp2_with fail
      refine (pages_any _).mono ?_
      rintro e wp ⟨rfl, hbp⟩
      go_wp2_with fail
      go_ret
      exact ⟨rfl, below_step BF.out hbp⟩
    case false =>
      obtain ⟨⟨k0, k1, k2⟩, ⟨k3, k4, k5⟩, -⟩ := HTf.out
      have l0 := World.block_lt_of_cell? _ _ k0
      have l1 := World.block_lt_of_cell? _ _ k3
      simp only at l0 l1
      go_upto_region 3 with fail
      go_cut [11, 12] from 56 to 59 (fun t u wx => t = .int .i64 (pageErr a1 b1 n1) ∧ u = .int .i64 (pageErr a2 b2 n2) ∧ Hid (BoxesC w.heap.size a1 b1 s1 n1 c1 a2 b2 s2 n2 c2 a3 b3 s3 n3 c3 lv X Y bw bh wx ∧ Below w.heap.size w wx))
      case first =>
        go_region_held3 (fun w' => w'.cell? ⟨w.heap.size, 0, none⟩ = some (.int .i64 a1) ∧ w'.cell? ⟨w.heap.size, 1, none⟩ = some (.int .i64 b1) ∧ w'.cell? ⟨w.heap.size, 2, none⟩ = some (.slice s1 n1 c1) ∧
            w'.cell? ⟨w.heap.size + 1, 0, none⟩ = some (.int .i64 a2) ∧ w'.cell? ⟨w.heap.size + 1, 1, none⟩ = some (.int .i64 b2) ∧ w'.cell? ⟨w.heap.size + 1, 2, none⟩ = some (.slice s2 n2 c2))
          (first | (go_keep; done) | (go_split_ands; exact ⟨cell_later hba (by assumption), cell_later hba (by assumption), cell_later hba (by assumption), cell_later hba (by assumption), cell_later hba (by assumption), cell_later hba (by assumption)⟩) | (go_split_ands; exact ⟨cell_later hbb (by assumption), cell_later hbb (by assumption), cell_later hbb (by assumption), cell_later hbb (by assumption), cell_later hbb (by assumption), cell_later hbb (by assumption)⟩))
          ((first | (go_at_call 10; with_reducible refine (grayError_any a1 b1 s1 n1 c1 _).mono ?_; rintro e wa ⟨rfl, hba⟩) | (go_at_call 9; with_reducible refine (bitsError_any a2 b2 s2 n2 c2 _).mono ?_; rintro e wb ⟨rfl, hbb⟩)))
        have hbw := below_step (below_step (Below.refl wf.heap.size wf).drew hba) hbb
        go_wp2_with fail
        go_meet
        case rel => exact ⟨rfl, rfl, Lib.hid ⟨HTf.out.later hbw, below_step BF.out hbw⟩⟩
      case rest =>
      obtain ⟨rfl, rfl, HF⟩ := hcut
      obtain ⟨wb, rfl⟩ : ∃ wb, wb = wc := ⟨_, rfl⟩
      have HTb := Lib.hid HF.out.1
      have BB := Lib.hid HF.out.2
      clear k0 k1 k2 k3 k4 k5 l0 l1 HTf BF HF
      obtain ⟨⟨k0, k1, k2⟩, -, -, k9, -⟩ := HTb.out
      have l0 := World.block_lt_of_cell? _ _ k0
      simp only at l0
      go_wp2_with fail
      refine (toBits_any a1 b1 lv s1 n1 c1 zs wb (isBytes_later HS1.out BB.out)).mono ?_
      rintro e wd ⟨ti, tj, ts, tn, tc, rfl, hI, hbd⟩
      have hnd := new_below wd (.cells #[.int .i64 ti, .int .i64 tj, .slice ts tn tc] 24)
      have hbn := below_step hbd hnd
      obtain ⟨we, hwe⟩ : ∃ we, we = wd.alloc (.cells #[.int .i64 ti, .int .i64 tj, .slice ts tn tc] 24) := ⟨_, rfl⟩
      have HTe := Lib.hid (HTb.out.later hbn)
      have BE := Lib.hid (below_step BB.out hbn)
      have HQe := Lib.hid (heap_alloc_new wd (.cells #[.int .i64 ti, .int .i64 tj, .slice ts tn tc] 24))
      have HIe := Lib.hid (hI.later hnd)
      rw [← hwe] at HTe BE HQe HIe
      clear hnd hbn hI hbd HTb BB k0 k1 k2 k9 l0
      go_upto_region 5 with fail
      rw [← hwe]
      clear hwe
      obtain ⟨p0, p1, p2, -, -, -⟩ := block3 HQe.out
      have lp := World.block_lt_of_cell? _ _ p0
      have k9 := HTe.out.2.2.2.1
      go_cut [81] from 66 to 80 (fun t wx => t = .bool false ∧ Hid (BoxesC w.heap.size a1 b1 s1 n1 c1 a2 b2 s2 n2 c2 a3 b3 s3 n3 c3 lv X Y bw bh wx ∧ Below w.heap.size w wx))
      case first =>
        go_region_held3 (fun w' => w'.cell? ⟨wd.heap.size, 0, none⟩ = some (.int .i64 ti) ∧ w'.cell? ⟨wd.heap.size, 1, none⟩ = some (.int .i64 tj) ∧ w'.cell? ⟨wd.heap.size, 2, none⟩ = some (.slice ts tn tc) ∧ w'.cell? ⟨w.heap.size + 3, 0, none⟩ = some (.int .i64 lv))
          (first | (go_keep; done) | (go_split_ands; exact ⟨cell_later hbp (by assumption), cell_later hbp (by assumption), cell_later hbp (by assumption), cell_later hbp (by assumption)⟩) | (go_split_ands; exact ⟨cell_later hbk (by assumption), cell_later hbk (by assumption), cell_later hbk (by assumption), cell_later hbk (by assumption)⟩))
          ((first | (go_at_call 12; with_reducible refine (pages_any _).mono ?_; rintro e wp ⟨rfl, hbp⟩; have hbh := below_alloc (below_step (Below.refl we.heap.size we).drew hbp) (.cells #[.int .i64 (pageErr a1 b1 n1), .int .i64 (whenI (!inB lv 0 256) 3)] 30)) | (go_at_call 47; refine (inB_any _ _ _ _).mono ?_; rintro e w' ⟨rfl, rfl⟩) | (go_at_call 23; refine (when_any _ _ _).mono ?_; rintro e w' ⟨rfl, rfl⟩) | (go_at_call 22; refine (first2_new _ _ _).mono ?_; rintro e w' ⟨rfl, rfl⟩) | (go_at_call 21; rw [show orI (pageErr a1 b1 n1) (whenI (!inB lv 0 256) 3) = tbErr a1 b1 n1 lv from want_toBits a1 b1 lv n1]; refine (bitsIs_toBits a1 b1 ti tj lv n1 c1 w.heap.size (w.heap.size + 3) _ tn tc zs s1 ts _ (HIe.out.later hbh) (isBytes_later HS1.out (below_step BE.out hbh)) (cell_later hbh HTe.out.1.1) (cell_later hbh HTe.out.1.2.1) (cell_later hbh HTe.out.1.2.2) (cell_later hbh HTe.out.2.2.2.1)).mono ?_; rintro e wk ⟨rfl, hbk⟩)))
        all_goals
          go_wp2_with fail
          go_meet
          case rel => exact ⟨rfl, Lib.hid ⟨(HTe.out.later hbh).later hbk, below_step (below_step BE.out hbh) hbk⟩⟩
      case rest =>
      obtain ⟨rfl, HF⟩ := hcut
      obtain ⟨wf2, rfl⟩ : ∃ wf2, wf2 = wc := ⟨_, rfl⟩
      have HTf := Lib.hid HF.out.1
      have BF := Lib.hid HF.out.2
      clear HTe BE HQe HIe HF p0 p1 p2 lp k9
      obtain ⟨⟨k0, k1, k2⟩, -⟩ := HTf.out
      have l0 := World.block_lt_of_cell? _ _ k0
      simp only at l0
      go_wp2_with fail
      refine (histogram_any a1 b1 s1 n1 c1 zs wf2 (isBytes_later HS1.out BF.out)).mono ?_
      rintro e wh ⟨hl, hn, hc, rfl, hL, hbh⟩
      have HTh := Lib.hid (HTf.out.later hbh)
      have BH := Lib.hid (below_step BF.out hbh)
      have HL := Lib.hid hL
      clear hL hbh k0 k1 k2 l0 HTf BF
      go_upto_region 8 with fail
      go_cut [98] from 87 to 97 (fun t wx => t = .bool false ∧ wh = wx)
      case first =>
        rcases HL.out with ⟨hE, rfl, rfl, rfl⟩ | ⟨hE, _⟩
        · have hEb : (pageErr a1 b1 n1 != 0) = true := by simpa using hE
          clear hE
          go_wp2_with fail
          go_meet
          case rel => exact ⟨rfl, rfl⟩
        · have hEb : (pageErr a1 b1 n1 != 0) = false := by simpa using hE
          clear hE
          go_wp2_with fail
          go_meet
          case rel => exact ⟨rfl, rfl⟩
      case rest =>
      obtain ⟨rfl, rfl⟩ := hcut
      go_upto_if 100 with fail
      go_cut [16, 18] from 99 to 123 (fun _ _ wx => Hid (BoxesC w.heap.size a1 b1 s1 n1 c1 a2 b2 s2 n2 c2 a3 b3 s3 n3 c3 lv X Y bw bh wx ∧ Below w.heap.size w wx))
      case first =>
        obtain ⟨b0, hb0⟩ : ∃ b0, b0 = (pageErr a1 b1 n1 == 0) := ⟨_, rfl⟩
        rw [← hb0]
        rcases HL.out with ⟨hE, rfl, rfl, rfl⟩ | ⟨hE, rfl, g', hg', rfl, hz⟩
        · obtain rfl : b0 = false := by rw [hb0]; simpa using hE
          clear hb0 hE
          go_wp2_with fail
          go_meet
          case rel => exact Lib.hid ⟨HTh.out, BH.out⟩
        · obtain rfl : b0 = true := by rw [hb0]; simpa using hE
          obtain ⟨W, H, rfl, rfl, hN, w1, w2, h1, h2, hN2, he⟩ := page_nat hE
          obtain ⟨g, o, rfl, hc0, hzb⟩ := isBytes_cells HS1.out (by rw [hN]; exact Nat.mul_pos w1 h1)
          obtain ⟨i0, hi, hz0, hz1, hz2⟩ := info_parts info_int
          have HZ := Lib.hid hz
          have HZB := Lib.hid hzb
          have HC := Lib.hid (fun j hj => cell_later BH.out (hc0 j hj))
          have HG := Lib.hid (fun j (hj : j < n1) => show g < wh.heap.size from by have := World.block_lt_of_cell? _ _ (HC.out j hj); simpa using this)
          have hEE := Lib.hid hE
          have HN := Lib.hid hN
          have hG' := Lib.hid (show g' < wh.heap.size from by have := World.block_lt_of_cell? _ _ (hz 0 (by omega)); simpa using this)
          clear hz hzb hc0 hb0 hE hg' he hN
          obtain ⟨⟨k0, k1, k2⟩, -⟩ := HTh.out
          have l0 := World.block_lt_of_cell? _ _ k0
          simp only at l0
          go_wp2_with (at_make; refine wpList_make_full _ rfl _ _ 69 rfl wh.heap.size 3 i0 (.int .i64 0) 1 Try.underlying69 hi hz0 hz1 _ _ _ _ 256 rfl rfl rfl rfl (by rw [hz2]; omega) (by unfold maxLen; omega) (by simp) ?_)
          intro w5 hown5 hgrow5
          rw [toList_madeCells_one, numsOf_zero] at hown5
          have hb5 := (Below.refl wh.heap.size wh).grown hgrow5 (Nat.le_refl _) (by simp)
          have hst : w5.ownsRow wh.heap.size 3 1 (.slice (some ⟨wh.heap.size, 0, none⟩) 256 256) 256 (numsOf (histN (fun j => zs.getD j 0) 0) 256) := by
            rw [← numsOf_congr (f := fun _ => 0) (g := histN (fun j => zs.getD j 0) 0) (fun j _ => rfl)]; exact hown5
          have HST := Lib.hid hst
          have HB5 := Lib.hid hb5
          have k2' := cell_later hb5 k2
          have hn1 : n1 ≤ 1048576 := hN2
          clear hgrow5 hown5 hst hb5 k0 k1
          go_wp2_with fail
          go_loopw [18, 105] (fun _ i wr => ∃ j : Nat, j ≤ n1 ∧ i = .int .i64 j ∧ wr.ownsRow wh.heap.size 3 1 (.slice (some ⟨wh.heap.size, 0, none⟩) 256 256) 256 (numsOf (histN (fun j => zs.getD j 0) j) 256) ∧ Below wh.heap.size w5 wr) (fun _ i _ => n1 - (intOf i).toNat)
          case atStart => exact ⟨0, Nat.zero_le _, rfl, HST.out, Below.refl _ _⟩
          case round =>
            obtain ⟨j, hj, rfl, hown, hb⟩ := hrel
            by_cases hlt : j < n1
            · have hpx := (hb.cell (p := ⟨g, o + j, none⟩) (HG.out j hlt)).trans (cell_later HB5.out (HC.out j hlt))
              obtain ⟨v, hv⟩ := Int.eq_ofNat_of_zero_le (HZB.out j).1
              have hv2 : v < 256 := by have := (HZB.out j).2; omega
              rw [hv] at hpx
              have hcell := hown.cellAt v (by omega)
              rw [numsOf_get _ _ _ hv2] at hcell
              have hfz := hown.frozenAt v
              have hle := histN_le (fun j => zs.getD j 0) j v
              have HS := Lib.hid (hist_step hown hv hv2)
              obtain ⟨k, hk⟩ : ∃ k, k = histN (fun j => zs.getD j 0) j v := ⟨_, rfl⟩
              rw [← hk] at hcell hle HS
              have HB := Lib.hid hb
              have i1 : (j : Int) < (n1 : Int) := by omega
              have i2 : (v : Int) < 256 := by omega
              clear hk hown hb hv
              go_wp2_with fail
              go_roundw
              case rel => exact ⟨j + 1, by omega, by go_num, by have := HS.out; rw [show ((k + 1 : Nat) : Int) = (k : Int) + 1 by omega] at this; exact this, HB.out.setCell (by simp) _⟩
              case measure => simp [intOf]; omega
            · obtain rfl : n1 = j := by omega
              have HO := Lib.hid (fun j (hj : j < 256) => show wr.cell? ⟨wh.heap.size, 0 + j, none⟩ = some (.int .i64 ((histN (fun j => zs.getD j 0) n1 j : Nat) : Int)) by rw [Nat.zero_add, hown.cellAt j (by omega), numsOf_get _ _ _ hj])
              have hbw := HB5.out.trans hb
              have HBW := Lib.hid hbw
              have HZ2 := Lib.hid (fun j (hj : j < 256) => (hb.cell (p := ⟨g', 0 + j, none⟩) hG'.out).trans (cell_later HB5.out (HZ.out j hj)))
              have HEQ := Lib.hid (equalInt_true g' 0 wh.heap.size 0 256 hc 256 (fun j => ((histN (fun j => zs.getD j 0) n1 j : Nat) : Int)) wr (by omega) HZ2.out HO.out)
              have hEb : (pageErr W H n1 != 0) = false := by simpa using hEE.out
              clear hown hb hbw
              go_wp2_with (go_at_call 60; refine HEQ.out.mono ?_; rintro e wq ⟨rfl, q, rfl⟩)
              go_meet
              case rel =>
                have hf := below_drewN (HBW.out) q
                exact Lib.hid ⟨HTh.out.later hf, below_step BH.out hf⟩
      case rest =>
      have HF := hcut
      obtain ⟨wi, rfl⟩ : ∃ wi, wi = wc := ⟨_, rfl⟩
      have HTi := Lib.hid HF.out.1
      have BI := Lib.hid HF.out.2
      clear HTh BH HL HF hcut
      obtain ⟨-, ⟨k3, k4, k5⟩, -⟩ := HTi.out
      have l1 := World.block_lt_of_cell? _ _ k3
      simp only at l1
      go_wp2_with fail
      refine (toGray_any a2 b2 s2 n2 c2 z wi (isBools_later HS2.out BI.out)).mono ?_
      rintro e wj ⟨gi, gj, gs, gn, gc, rfl, hI, hbj⟩
      have hnd := new_below wj (.cells #[.int .i64 gi, .int .i64 gj, .slice gs gn gc] 27)
      have hbn := below_step hbj hnd
      obtain ⟨wk, hwk⟩ : ∃ wk, wk = wj.alloc (.cells #[.int .i64 gi, .int .i64 gj, .slice gs gn gc] 27) := ⟨_, rfl⟩
      have HTk := Lib.hid (HTi.out.later hbn)
      have BK := Lib.hid (below_step BI.out hbn)
      have HQk := Lib.hid (heap_alloc_new wj (.cells #[.int .i64 gi, .int .i64 gj, .slice gs gn gc] 27))
      have HIk := Lib.hid (hI.later hnd)
      rw [← hwk] at HTk BK HQk HIk
      clear hnd hbn hI hbj HTi BI k3 k4 k5 l1
      go_upto_region 20 with fail
      rw [← hwk]
      clear hwk
      obtain ⟨-, ⟨k3, k4, k5⟩, -⟩ := HTk.out
      have l1 := World.block_lt_of_cell? _ _ k3
      simp only at l1
      go_wp2_with fail
      refine (rows_any a2 b2 s2 n2 c2 z wk (isBools_later HS2.out BK.out)).mono ?_
      rintro e wl ⟨rs, rn, rc, rfl, hR, hbl⟩
      have HTl := Lib.hid (HTk.out.later hbl)
      have BL := Lib.hid (below_step BK.out hbl)
      have HQl := Lib.hid (below_block hbl HQk.out)
      have HIl := Lib.hid (HIk.out.later hbl)
      have HRl := Lib.hid hR
      clear hbl hR HTk BK HQk HIk k3 k4 k5 l1
      obtain ⟨-, ⟨k3, k4, k5⟩, -⟩ := HTl.out
      have l1 := World.block_lt_of_cell? _ _ k3
      simp only at l1
      go_wp2_with fail
      refine (columns_any a2 b2 s2 n2 c2 z wl (isBools_later HS2.out BL.out)).mono ?_
      rintro e wm ⟨ss, sn, sc, rfl, hR, hbl⟩
      have HTm := Lib.hid (HTl.out.later hbl)
      have BM := Lib.hid (below_step BL.out hbl)
      have HQm := Lib.hid (below_block hbl HQl.out)
      have HIm := Lib.hid (HIl.out.later hbl)
      have HRm := Lib.hid (HRl.out.later hbl)
      have HCm := Lib.hid hR
      clear hbl hR HTl BL HQl HIl HRl k3 k4 k5 l1
      obtain ⟨-, ⟨k3, k4, k5⟩, -⟩ := HTm.out
      have l1 := World.block_lt_of_cell? _ _ k3
      simp only at l1
      go_wp2_with fail
      refine (bounds_any a2 b2 s2 n2 c2 z wm (isBools_later HS2.out BM.out)).mono ?_
      rintro e wn ⟨oX, oY, ow, oh, oq, rfl, hB, hbl⟩
      have hnd := new_below wn (.cells #[.int .i64 oX, .int .i64 oY, .int .i64 ow, .int .i64 oh] 29)
      have hbn := below_step hbl hnd
      obtain ⟨wo, hwo⟩ : ∃ wo, wo = wn.alloc (.cells #[.int .i64 oX, .int .i64 oY, .int .i64 ow, .int .i64 oh] 29) := ⟨_, rfl⟩
      have HTo := Lib.hid (HTm.out.later hbn)
      have BO := Lib.hid (below_step BM.out hbn)
      have HQo := Lib.hid (below_block hbn HQm.out)
      have HIo := Lib.hid (HIm.out.later hbn)
      have HRo := Lib.hid (HRm.out.later hbn)
      have HCo := Lib.hid (HCm.out.later hbn)
      have HBo := Lib.hid (heap_alloc_new wn (.cells #[.int .i64 oX, .int .i64 oY, .int .i64 ow, .int .i64 oh] 29))
      have HBB := Lib.hid hB
      rw [← hwo] at HTo BO HQo HIo HRo HCo HBo
      clear hnd hbn hB hbl HTm BM HQm HIm HRm HCm k3 k4 k5 l1
      go_upto_if 145 with fail
      rw [← hwo]
      clear hwo
      go_cut [26, 27] from 144 to 233 (fun _ _ wx => Hid (BoxesC w.heap.size a1 b1 s1 n1 c1 a2 b2 s2 n2 c2 a3 b3 s3 n3 c3 lv X Y bw bh wx ∧ Below w.heap.size w wx))
      case first =>
        obtain ⟨b0, hb0⟩ : ∃ b0, b0 = (pageErr a2 b2 n2 != 0) := ⟨_, rfl⟩
        rw [← hb0]
        obtain ⟨⟨o0, o1, o2, o3⟩, -⟩ := block4 HBo.out
        obtain ⟨p0, p1, p2, -, -, -⟩ := block3 HQo.out
        have lo := World.block_lt_of_cell? _ _ o0
        have lp := World.block_lt_of_cell? _ _ p0
        simp only at lo lp
        by_cases hE : pageErr a2 b2 n2 = 0
        · obtain rfl : b0 = false := by rw [hb0]; simpa using hE
          obtain ⟨W, H, rfl, rfl, hN, w1, w2, h1, h2, hN2, he⟩ := page_nat hE
          obtain ⟨g, o, rfl, hc0⟩ := isBools_cells HS2.out (by rw [hN]; exact Nat.mul_pos w1 h1)
          subst hN
          have hWH := Nat.mul_pos w1 h1
          rcases HIo.out with ⟨h0, _⟩ | ⟨-, y1, y2, y3, g1, -, rfl, hz1⟩
          · exact absurd hE h0
          rcases HRo.out with ⟨h0, _⟩ | ⟨-, y4, r1, -, rfl, hzr⟩
          · exact absurd hE h0
          rcases HCo.out with ⟨h0, _⟩ | ⟨-, y5, r2, -, rfl, hzc⟩
          · exact absurd hE h0
          rcases HBB.out with ⟨h0, _⟩ | ⟨-, hBB⟩
          · exact absurd hE h0
          simp only [Int.toNat_natCast] at y1 y2 y3 y4 y5 hz1 hzr hzc hBB
          subst y1 y2 y3
          subst rn sn
          have hdr := (Below.refl wo.heap.size wo).drew
          have HC := Lib.hid (fun j hj => cell_later hdr (cell_later BO.out (hc0 j hj)))
          have HZ1 := Lib.hid (fun j hj => cell_later hdr (hz1 j hj))
          have HZR := Lib.hid (fun j hj => cell_later hdr (hzr j hj))
          have HZC := Lib.hid (fun j hj => cell_later hdr (hzc j hj))
          have HB1 := Lib.hid hBB
          have hEE := Lib.hid hE
          obtain ⟨-, ⟨k3, k4, k5⟩, -⟩ := HTo.out
          have l1 := World.block_lt_of_cell? _ _ k3
          simp only at l1
          have HM := Lib.hid (made_black W H (w.heap.size + 1) g o c2 z wo.drew ⟨w1, w2⟩ ⟨h1, h2⟩ hN2 (cell_later hdr k3) (cell_later hdr k4) (cell_later hdr k5) HC.out)
          have hn100 : W * H ≤ 100000000 := by omega
          have hH100 : H ≤ 100000000 := by omega
          have hW100 : W ≤ 100000000 := by omega
          have hEb : (pageErr W H (W * H) != 0) = false := by simpa using hE
          clear hz1 hzr hzc hBB hc0 hE hb0 hdr o0 o1 o2 o3 lo he
          go_upto_region 26 with fail
          go_cut [218] from 184 to 217 (fun t wx => t = .bool false ∧ Hid (Below wo.heap.size wo wx))
          case first =>
            go_region_held3 (fun w' => w'.cell? ⟨w.heap.size + 1, 0, none⟩ = some (.int .i64 W) ∧ w'.cell? ⟨w.heap.size + 1, 1, none⟩ = some (.int .i64 H) ∧ w'.cell? ⟨w.heap.size + 1, 2, none⟩ = some (.slice (some ⟨g, o, none⟩) (W * H) c2) ∧
                w'.cell? ⟨wj.heap.size, 0, none⟩ = some (.int .i64 W) ∧ w'.cell? ⟨wj.heap.size, 1, none⟩ = some (.int .i64 H) ∧ w'.cell? ⟨wj.heap.size, 2, none⟩ = some (.slice (some ⟨g1, 0, none⟩) (W * H) gc))
              (first | (go_keep; done) | (go_split_ands; exact ⟨cell_later hbp (by assumption), cell_later hbp (by assumption), cell_later hbp (by assumption), cell_later hbp (by assumption), cell_later hbp (by assumption), cell_later hbp (by assumption)⟩) | (go_split_ands; exact ⟨cell_later hbq (by assumption), cell_later hbq (by assumption), cell_later hbq (by assumption), cell_later hbq (by assumption), cell_later hbq (by assumption), cell_later hbq (by assumption)⟩) | (go_split_ands; exact ⟨cell_later hbr (by assumption), cell_later hbr (by assumption), cell_later hbr (by assumption), cell_later hbr (by assumption), cell_later hbr (by assumption), cell_later hbr (by assumption)⟩) | (go_split_ands; exact ⟨cell_later hq1 (by assumption), cell_later hq1 (by assumption), cell_later hq1 (by assumption), cell_later hq1 (by assumption), cell_later hq1 (by assumption), cell_later hq1 (by assumption)⟩) | (go_split_ands; exact ⟨cell_later hbt (by assumption), cell_later hbt (by assumption), cell_later hbt (by assumption), cell_later hbt (by assumption), cell_later hbt (by assumption), cell_later hbt (by assumption)⟩) | (go_split_ands; exact ⟨cell_later hq2 (by assumption), cell_later hq2 (by assumption), cell_later hq2 (by assumption), cell_later hq2 (by assumption), cell_later hq2 (by assumption), cell_later hq2 (by assumption)⟩))
              ((first | (go_at_call 30; with_reducible refine HM.out.mono ?_; rintro e wp ⟨g2, cc2, rfl, hz2, hbp⟩; have HZ2 := Lib.hid hz2; clear hz2) | (go_at_call 29; with_reducible refine (sameGray_true W H g1 0 g2 0 (W * H) gc cc2 (fun j => blackIf (z (j / W * W + j % W))) _ hn100 (fun j hj => cell_later hbp (HZ1.out j hj)) HZ2.out).mono ?_; rintro e wq ⟨rfl, hbq⟩) | (go_at_call 66; with_reducible refine (rowsOf_any W H g o c2 z _ ⟨w1, w2⟩ ⟨h1, h2⟩ (fun j hj => cell_later hbq (cell_later hbp (HC.out j hj)))).mono ?_; rintro e wr ⟨v, rfl, hown, hbr⟩; obtain ⟨g3, c3', rfl, hg3, hz3⟩ := owns_nums hown h1; have HZ3 := Lib.hid hz3; clear hz3 hown) | (go_at_call 60; with_reducible refine (equalInt_true r1 0 g3 0 H rc c3' (fun y => ((inkB z W 0 y W 1 : Nat) : Int)) _ hH100 (fun j hj => cell_later hbr (cell_later hbq (cell_later hbp (HZR.out j hj)))) HZ3.out).mono ?_; rintro e ws ⟨rfl, q1, rfl⟩; have hq1 := below_drewN (Below.refl wr.heap.size wr) q1) | (go_at_call 67; with_reducible refine (columnsOf_any W H g o c2 z _ ⟨w1, w2⟩ ⟨h1, h2⟩ (fun j hj => cell_later hq1 (cell_later hbr (cell_later hbq (cell_later hbp (HC.out j hj)))))).mono ?_; rintro e wt ⟨v, rfl, hown, hbt⟩; obtain ⟨g4, c4', rfl, hg4, hz4⟩ := owns_nums hown w1; have HZ4 := Lib.hid hz4; clear hz4 hown) | (go_at_call 60; with_reducible refine (equalInt_true r2 0 g4 0 W sc c4' (fun x => ((inkB z W x 0 1 H : Nat) : Int)) _ hW100 (fun j hj => cell_later hbt (cell_later hq1 (cell_later hbr (cell_later hbq (cell_later hbp (HZC.out j hj)))))) HZ4.out).mono ?_; rintro e wu ⟨rfl, q2, rfl⟩; have hq2 := below_drewN (Below.refl wt.heap.size wt) q2)))
            all_goals
              have hbw := below_step (below_step (below_step (below_step (below_step (below_step (Below.refl wo.heap.size wo).drew hbp) hbq) hbr) hq1) hbt) hq2
              go_wp2_with fail
              go_meet
              case rel => exact ⟨rfl, Lib.hid hbw⟩
          case rest =>
            obtain ⟨rfl, HF⟩ := hcut
            obtain ⟨wv, rfl⟩ : ∃ wv, wv = wc := ⟨_, rfl⟩
            have HTv := Lib.hid (HTo.out.later HF.out)
            have BV := Lib.hid (below_step BO.out HF.out)
            have HBv := Lib.hid (below_block HF.out HBo.out)
            clear HF HTo BO HBo HM k3 k4 k5 l1 p0 p1 p2 lp HIo HRo HCo HQo HBB HZ1 HZR HZC HC
            have HC := Lib.hid (fun j hj => cell_later BV.out ((isBools_cells HS2.out hWH).elim fun g' h => h.elim fun o' h => by
              obtain ⟨h1, h2⟩ := h
              cases h1
              exact h2 j hj))
            obtain ⟨-, ⟨k3, k4, k5⟩, -⟩ := HTv.out
            have l1 := World.block_lt_of_cell? _ _ k3
            simp only at l1
            go_wp2_with fail
            refine (boundsOf_any W H g o c2 z wv ⟨w1, w2⟩ ⟨h1, h2⟩ HC.out).mono ?_
            rintro e wx ⟨X', Y', bw', bh', q', rfl, hB', hbx⟩
            obtain ⟨e1, e2, e3, e4, e5⟩ := box_uniq hB' HB1.out
            subst e1 e2 e3 e4 e5
            obtain ⟨⟨o0, o1, o2, o3⟩, -⟩ := block4 (below_block hbx HBv.out)
            have lo := World.block_lt_of_cell? _ _ o0
            simp only at lo
            have hnx := new_below wx (.cells #[.int .i64 X', .int .i64 Y', .int .i64 bw', .int .i64 bh'] 29)
            have hbn := Lib.hid (below_step hbx hnx)
            clear hbx hnx k3 k4 k5 l1 hB'
            cases q'
            · have hbe : (bndErr (pageErr W H (W * H)) false != whenI true 10) = false := by rw [hEE.out]; simp [bndErr, whenI]
              clear hEb
              go_wp2_with ((go_at_call 23; refine (when_any _ _ _).mono ?_; rintro e w' ⟨rfl, rfl⟩))
              go_meet
              case rel => exact Lib.hid ⟨HTv.out.later hbn.out, below_step BV.out hbn.out⟩
            · have hbe : (bndErr (pageErr W H (W * H)) true != whenI false 10) = false := by rw [hEE.out]; simp [bndErr, whenI]
              clear hEb
              go_wp2_with ((go_at_call 23; refine (when_any _ _ _).mono ?_; rintro e w' ⟨rfl, rfl⟩))
              go_meet
              case rel => exact Lib.hid ⟨HTv.out.later hbn.out, below_step BV.out hbn.out⟩
        · obtain rfl : b0 = true := by rw [hb0]; simpa using hE
          rcases HIo.out with ⟨_, y1, y2, y3, y4, y5⟩ | ⟨h0, _⟩
          · subst y1 y2 y3 y4 y5
            rcases HRo.out with ⟨_, y1, y2, y3⟩ | ⟨h0, _⟩
            · subst y1 y2 y3
              rcases HCo.out with ⟨_, y1, y2, y3⟩ | ⟨h0, _⟩
              · subst y1 y2 y3
                rcases HBB.out with ⟨_, y1, y2, y3, y4⟩ | ⟨h0, _⟩
                · subst y1 y2 y3 y4
                  have hbe : (bndErr (pageErr a2 b2 n2) oq != pageErr a2 b2 n2) = false := by unfold bndErr; rw [if_neg hE]; simp
                  clear hb0 hE
                  go_wp2_with fail
                  refine (noGray_zero _).mono ?_
                  rintro e wz ⟨rfl, hbz⟩
                  have u0 := cell_later hbz o0
                  have u1 := cell_later hbz o1
                  have u2 := cell_later hbz o2
                  have u3 := cell_later hbz o3
                  clear o0 o1 o2 o3 p0 p1 p2
                  go_wp2_with fail
                  go_meet
                  case rel => exact Lib.hid ⟨HTo.out.later hbz, below_step BO.out hbz⟩
                · exact absurd h0 hE
              · exact absurd h0 hE
            · exact absurd h0 hE
          · exact absurd h0 hE
      case rest =>
      have HF := hcut
      obtain ⟨wp, rfl⟩ : ∃ wp, wp = wc := ⟨_, rfl⟩
      have HTp := Lib.hid HF.out.1
      have BP := Lib.hid HF.out.2
      clear HF hcut HTo BO HQo HIo HRo HCo HBo HBB
      obtain ⟨-, ⟨k3, k4, k5⟩, -, -, m0, m1, m2, m3⟩ := HTp.out
      have l1 := World.block_lt_of_cell? _ _ k3
      have l4 := World.block_lt_of_cell? _ _ m0
      simp only at l1 l4
      go_wp2_with fail
      refine (ink_any a2 b2 X Y bw bh s2 n2 c2 z wp (isBools_later HS2.out BP.out)).mono ?_
      rintro e wq ⟨k, rfl, hK, hbq⟩
      have HTq := Lib.hid (HTp.out.later hbq)
      have BQ := Lib.hid (below_step BP.out hbq)
      have HK := Lib.hid hK
      clear hK hbq k3 k4 k5 m0 m1 m2 m3 l1 l4 HTp BP
      obtain ⟨-, ⟨k3, k4, k5⟩, -, -, m0, m1, m2, m3⟩ := HTq.out
      have l1 := World.block_lt_of_cell? _ _ k3
      have l4 := World.block_lt_of_cell? _ _ m0
      simp only at l1 l4
      go_wp2_with fail
      refine (inPage_any X Y bw bh a2 b2 wq).mono ?_
      rintro e wr ⟨q, rfl, hq, hbr⟩
      have hbs := below_alloc hbr (.cells #[.int .i64 (pageErr a2 b2 n2), .int .i64 (whenI (!q) 13)] 30)
      have HWQ := Lib.hid (want_cut (n := n2) hq)
      have HTs := Lib.hid (HTq.out.later hbs)
      have BS := Lib.hid (below_step BQ.out hbs)
      clear hq hbr hbs k3 k4 k5 m0 m1 m2 m3 l1 l4 HTq BQ
      go_upto_region 33 with (first | (go_at_call 23; refine (when_any _ _ _).mono ?_; rintro e w' ⟨rfl, rfl⟩) | (go_at_call 22; refine (first2_new _ _ _).mono ?_; rintro e w' ⟨rfl, rfl⟩))
      rw [HWQ.out]
      obtain ⟨ws, hws⟩ : ∃ ws, ws = wr.alloc (.cells #[.int .i64 (pageErr a2 b2 n2), .int .i64 (whenI (!q) 13)] 30) := ⟨_, rfl⟩
      rw [← hws] at HTs BS ⊢
      clear hws
      go_cut [272] from 251 to 271 (fun t wx => t = .bool false ∧ Hid (Below ws.heap.size ws wx))
      case first =>
        rcases HK.out with ⟨hE, rfl⟩ | ⟨hE, rfl⟩
        · have e1 : (cutErr a2 b2 n2 X Y bw bh != 0) = true := by simpa using hE
          have e2 : (cutErr a2 b2 n2 X Y bw bh == 0) = false := by simpa using hE
          clear hE
          go_wp2_with fail
          go_meet
          case rel => exact ⟨rfl, Lib.hid (Below.refl _ _)⟩
        · have hp : pageErr a2 b2 n2 = 0 := by
            unfold cutErr at hE
            by_cases h : pageErr a2 b2 n2 = 0
            · exact h
            · rw [if_neg h] at hE; exact absurd hE h
          obtain ⟨W, H, rfl, rfl, hN, w1, w2, h1, h2, hN2, he⟩ := page_nat hp
          have hb : InP X Y bw bh W H := by
            unfold cutErr at hE
            rw [if_pos hp] at hE
            by_cases hb : InP X Y bw bh W H
            · exact hb
            · rw [if_neg hb] at hE; simp at hE
          obtain ⟨x, y', p, q', rfl, rfl, rfl, rfl, d1, d2, d3, d4⟩ := box_nat hb
          obtain ⟨g, o, rfl, hc0⟩ := isBools_cells HS2.out (by rw [hN]; exact Nat.mul_pos w1 h1)
          subst hN
          have HI := Lib.hid (show Calls Try.prog 70 #[.agg #[.int .i64 W, .int .i64 H, .slice (some ⟨g, o, none⟩) (W * H) c2], .agg #[.int .i64 x, .int .i64 y', .int .i64 p, .int .i64 q']] ws fun e w' => e = .returned (.int .i64 ((inkB z (W : Int).toNat (x : Int).toNat (y' : Int).toNat (p : Int).toNat (q' : Int).toNat : Nat) : Int)) ∧ Below ws.heap.size ws w' from inkOf_any W H x y' p q' g o c2 z ws w2 h2 d1 d2 (fun j hj => cell_later BS.out (hc0 j hj)))
          have e1 : (cutErr W H (W * H) x y' p q' != 0) = false := by simpa using hE
          have e2 : (cutErr W H (W * H) x y' p q' == 0) = true := by simpa using hE
          clear hE hp he hb hc0
          obtain ⟨-, ⟨k3, k4, k5⟩, -, -, m0, m1, m2, m3⟩ := HTs.out
          have l1 := World.block_lt_of_cell? _ _ k3
          have l4 := World.block_lt_of_cell? _ _ m0
          simp only at l1 l4
          go_wp2_with (go_at_call 70; refine HI.out.mono ?_; rintro e wx ⟨rfl, hbx⟩)
          go_meet
          case rel => exact ⟨rfl, Lib.hid hbx⟩
      case rest =>
      obtain ⟨rfl, HF⟩ := hcut
      obtain ⟨wt, rfl⟩ : ∃ wt, wt = wc := ⟨_, rfl⟩
      have HTt := Lib.hid (HTs.out.later HF.out)
      have BT := Lib.hid (below_step BS.out HF.out)
      clear HF HTs BS HK HWQ
      obtain ⟨-, ⟨k3, k4, k5⟩, ⟨k6, k7, k8⟩, -⟩ := HTt.out
      have l1 := World.block_lt_of_cell? _ _ k3
      have l2 := World.block_lt_of_cell? _ _ k6
      simp only at l1 l2
      go_wp2_with fail
      refine (differ_any a2 b2 a3 b3 s2 s3 n2 c2 n3 c3 z y wt (isBools_later HS2.out BT.out) (isBools_later HS3.out BT.out)).mono ?_
      rintro e wu ⟨k', rfl, hD, hbu⟩
      have HTu := Lib.hid (HTt.out.later hbu)
      have BU := Lib.hid (below_step BT.out hbu)
      have HD := Lib.hid hD
      clear hD hbu k3 k4 k5 k6 k7 k8 l1 l2 HTt BT
      obtain ⟨-, ⟨k3, k4, k5⟩, ⟨k6, k7, k8⟩, -⟩ := HTu.out
      have l1 := World.block_lt_of_cell? _ _ k3
      have l2 := World.block_lt_of_cell? _ _ k6
      simp only at l1 l2
      go_upto_region 36 with fail
      go_cut [30] from 279 to 296 (fun t wx => t = .int .i64 (diffErr a2 b2 n2 a3 b3 n3) ∧ Hid (Below wu.heap.size wu wx))
      case first =>
        by_cases ha : a2 = a3
        · by_cases hb : b2 = b3
          · have e1 : (a2 != a3) = false := by simpa using ha
            have e2 : (b2 != b3) = false := by simpa using hb
            have HWD := Lib.hid (want_diff (a := a2) (b := b2) (n := n2) (a2 := a3) (b2 := b3) (n2 := n3) (q := false) (by simp [ha, hb]))
            clear ha hb
            go_region_held3 (fun w' => w'.cell? ⟨w.heap.size + 1, 0, none⟩ = some (.int .i64 a2) ∧ w'.cell? ⟨w.heap.size + 1, 1, none⟩ = some (.int .i64 b2) ∧ w'.cell? ⟨w.heap.size + 2, 0, none⟩ = some (.int .i64 a3) ∧ w'.cell? ⟨w.heap.size + 2, 1, none⟩ = some (.int .i64 b3) ∧ w'.cell? ⟨w.heap.size + 2, 2, none⟩ = some (.slice s3 n3 c3))
              (first | (go_keep; done) | (go_split_ands; exact ⟨cell_later hbv (by assumption), cell_later hbv (by assumption), cell_later hbv (by assumption), cell_later hbv (by assumption), cell_later hbv (by assumption)⟩))
              ((first | (go_at_call 9; with_reducible refine (bitsError_any a3 b3 s3 n3 c3 _).mono ?_; rintro e wv ⟨rfl, hbv⟩) | (go_at_call 23; refine (when_any _ _ _).mono ?_; rintro e w' ⟨rfl, rfl⟩) | (go_at_call 22; refine (first3_new _ _ _ _).mono ?_; rintro e w' ⟨rfl, rfl⟩)))
            all_goals
              go_wp2_with fail
              go_meet
              case rel => exact ⟨by rw [← HWD.out], Lib.hid (below_alloc (below_step (Below.refl wu.heap.size wu).drew hbv) _)⟩
          · have e1 : (a2 != a3) = false := by simpa using ha
            have e2 : (b2 != b3) = true := by simpa using hb
            have HWD := Lib.hid (want_diff (a := a2) (b := b2) (n := n2) (a2 := a3) (b2 := b3) (n2 := n3) (q := true) (by simp [ha, hb]))
            clear ha hb
            go_region_held3 (fun w' => w'.cell? ⟨w.heap.size + 1, 0, none⟩ = some (.int .i64 a2) ∧ w'.cell? ⟨w.heap.size + 1, 1, none⟩ = some (.int .i64 b2) ∧ w'.cell? ⟨w.heap.size + 2, 0, none⟩ = some (.int .i64 a3) ∧ w'.cell? ⟨w.heap.size + 2, 1, none⟩ = some (.int .i64 b3) ∧ w'.cell? ⟨w.heap.size + 2, 2, none⟩ = some (.slice s3 n3 c3))
              (first | (go_keep; done) | (go_split_ands; exact ⟨cell_later hbv (by assumption), cell_later hbv (by assumption), cell_later hbv (by assumption), cell_later hbv (by assumption), cell_later hbv (by assumption)⟩))
              ((first | (go_at_call 9; with_reducible refine (bitsError_any a3 b3 s3 n3 c3 _).mono ?_; rintro e wv ⟨rfl, hbv⟩) | (go_at_call 23; refine (when_any _ _ _).mono ?_; rintro e w' ⟨rfl, rfl⟩) | (go_at_call 22; refine (first3_new _ _ _ _).mono ?_; rintro e w' ⟨rfl, rfl⟩)))
            all_goals
              go_wp2_with fail
              go_meet
              case rel => exact ⟨by rw [← HWD.out], Lib.hid (below_alloc (below_step (Below.refl wu.heap.size wu).drew hbv) _)⟩
        · have e1 : (a2 != a3) = true := by simpa using ha
          have HWD := Lib.hid (want_diff (a := a2) (b := b2) (n := n2) (a2 := a3) (b2 := b3) (n2 := n3) (q := true) (by simp [ha]))
          clear ha
          refine wp_region_held_drew (S := fun w' => w'.cell? ⟨w.heap.size + 1, 0, none⟩ = some (.int .i64 a2) ∧ w'.cell? ⟨w.heap.size + 2, 0, none⟩ = some (.int .i64 a3) ∧ w'.cell? ⟨w.heap.size + 2, 1, none⟩ = some (.int .i64 b3) ∧ w'.cell? ⟨w.heap.size + 2, 2, none⟩ = some (.slice s3 n3 c3)) (by kernel_rfl) ?_ (fun hHeld => ?_)
          · (try dsimp only); go_keep
          refine wpAnyH_take (i := 0) (v := .int .i64 (pageErr a2 b2 n2)) rfl (by kernel_rfl) (by kernel_rfl) (by kernel_rfl) (fun _ _ _ h => h) (Or.inl ⟨by go_simp, ?_⟩) (by assumption) ?_
          · intro w hSw; (try dsimp only at hSw); go_simp
          try simp only [Act.put, List.setIfInBounds_toArray, List.set_cons_zero, List.set_cons_succ]
          refine wpAnyH_take (i := 1) (v := .agg #[.int .i64 a3, .int .i64 b3, .slice s3 n3 c3]) rfl (by kernel_rfl) (by kernel_rfl) (by kernel_rfl) (fun _ _ _ h => h) (Or.inl ⟨by go_simp, ?_⟩) (by assumption) ?_
          · intro w hSw; (try dsimp only at hSw); go_simp
          try simp only [Act.put, List.setIfInBounds_toArray, List.set_cons_zero, List.set_cons_succ]
          refine wpAnyH_take (i := 3) (v := .pointer (some ⟨w.heap.size + 1, 0, none⟩)) rfl (by kernel_rfl) (by kernel_rfl) (by kernel_rfl) (fun _ _ _ h => h) (Or.inl ⟨by go_simp, ?_⟩) (by assumption) ?_
          · intro w hSw; (try dsimp only at hSw); go_simp
          try simp only [Act.put, List.setIfInBounds_toArray, List.set_cons_zero, List.set_cons_succ]
          refine wpAnyH_take (i := 4) (v := .int .i64 a2) rfl (by kernel_rfl) (by kernel_rfl) (by kernel_rfl) (fun _ _ _ h => h) (Or.inl ⟨by go_simp, ?_⟩) (by assumption) ?_
          · intro w hSw; (try dsimp only at hSw); go_simp
          try simp only [Act.put, List.setIfInBounds_toArray, List.set_cons_zero, List.set_cons_succ]
          refine wpAnyH_take (i := 5) (v := .pointer (some ⟨w.heap.size + 1 + 1, 0, none⟩)) rfl (by kernel_rfl) (by kernel_rfl) (by kernel_rfl) (fun _ _ _ h => h) (Or.inl ⟨by go_simp, ?_⟩) (by assumption) ?_
          · intro w hSw; (try dsimp only at hSw); go_simp
          try simp only [Act.put, List.setIfInBounds_toArray, List.set_cons_zero, List.set_cons_succ]
          refine wpAnyH_take (i := 6) (v := .int .i64 a3) rfl (by kernel_rfl) (by kernel_rfl) (by kernel_rfl) (fun _ _ _ h => h) (Or.inl ⟨by go_simp, ?_⟩) (by assumption) ?_
          · intro w hSw; (try dsimp only at hSw); go_simp
          try simp only [Act.put, List.setIfInBounds_toArray, List.set_cons_zero, List.set_cons_succ]
          refine wpAnyH_take (i := 7) (v := .bool true) rfl (by kernel_rfl) (by kernel_rfl) (by kernel_rfl) (fun _ _ _ h => h) (Or.inl ⟨by go_simp, ?_⟩) (by assumption) ?_
          · intro w hSw; (try dsimp only at hSw); go_simp
          try simp only [Act.put, List.setIfInBounds_toArray, List.set_cons_zero, List.set_cons_succ]
          refine wpAnyH_ready (rs := [2]) (by kernel_rfl) (by simp) ?_
          refine AllReadyH.cons (o := _) rfl (fun K hK => ?_) AllReadyH.nil
          try go_simp
          refine (bitsError_any a3 b3 s3 n3 c3 _).mono ?_
          rintro e wv ⟨rfl, hbv⟩
          try go_simp
          refine hK.out _ _ ?_ (fun hHeld => ?_)
          · (try dsimp only); (obtain ⟨x1, x2, x3, x4⟩ := hHeld; exact ⟨cell_later hbv x1, cell_later hbv x2, cell_later hbv x3, cell_later hbv x4⟩)
          clear hK K
          try simp only [Act.put, List.setIfInBounds_toArray, List.set_cons_zero, List.set_cons_succ]
          refine wpAnyH_take (i := 8) (v := .bool true) rfl (by kernel_rfl) (by kernel_rfl) (by kernel_rfl) (fun _ _ _ h => h) (Or.inl ⟨by go_simp, ?_⟩) (by assumption) ?_
          · intro w hSw; (try dsimp only at hSw); go_simp
          try simp only [Act.put, List.setIfInBounds_toArray, List.set_cons_zero, List.set_cons_succ]
          refine wpAnyH_take (i := 9) (v := undef) rfl (by kernel_rfl) (by kernel_rfl) (by kernel_rfl) (fun _ _ _ h => h) (Or.inr ⟨by go_simp, rfl⟩) (by assumption) ?_
          try simp only [Act.put, List.setIfInBounds_toArray, List.set_cons_zero, List.set_cons_succ]
          refine wpAnyH_take (i := 10) (v := undef) rfl (by kernel_rfl) (by kernel_rfl) (by kernel_rfl) (fun _ _ _ h => h) (Or.inr ⟨by go_simp, rfl⟩) (by assumption) ?_
          try simp only [Act.put, List.setIfInBounds_toArray, List.set_cons_zero, List.set_cons_succ]
          refine wpAnyH_take (i := 11) (v := undef) rfl (by kernel_rfl) (by kernel_rfl) (by kernel_rfl) (fun _ _ _ h => h) (Or.inr ⟨by go_simp, rfl⟩) (by assumption) ?_
          try simp only [Act.put, List.setIfInBounds_toArray, List.set_cons_zero, List.set_cons_succ]
          refine wpAnyH_take (i := 12) (v := undef) rfl (by kernel_rfl) (by kernel_rfl) (by kernel_rfl) (fun _ _ _ h => h) (Or.inr ⟨by go_simp, rfl⟩) (by assumption) ?_
          try simp only [Act.put, List.setIfInBounds_toArray, List.set_cons_zero, List.set_cons_succ]
          refine wpAnyH_take (i := 13) (v := undef) rfl (by kernel_rfl) (by kernel_rfl) (by kernel_rfl) (fun _ _ _ h => h) (Or.inr ⟨by go_simp, rfl⟩) (by assumption) ?_
          try simp only [Act.put, List.setIfInBounds_toArray, List.set_cons_zero, List.set_cons_succ]
          refine wpAnyH_take (i := 14) (v := .bool true) rfl (by kernel_rfl) (by kernel_rfl) (by kernel_rfl) (fun _ _ _ h => h) (Or.inl ⟨by go_simp, ?_⟩) (by assumption) ?_
          · intro w hSw; (try dsimp only at hSw); go_simp
          try simp only [Act.put, List.setIfInBounds_toArray, List.set_cons_zero, List.set_cons_succ]
          refine wpAnyH_ready (rs := [15]) (by kernel_rfl) (by simp) ?_
          refine AllReadyH.cons (o := _) rfl (fun K hK => ?_) AllReadyH.nil
          try go_simp
          refine (when_any _ _ _).mono ?_
          rintro e w' ⟨rfl, rfl⟩
          try go_simp
          refine hK.out _ _ ?_ (fun hHeld => ?_)
          · (try dsimp only); assumption
          clear hK K
          try simp only [Act.put, List.setIfInBounds_toArray, List.set_cons_zero, List.set_cons_succ]
          refine wpAnyH_ready (rs := [16]) (by kernel_rfl) (by simp) ?_
          refine AllReadyH.cons (o := _) rfl (fun K hK => ?_) AllReadyH.nil
          try go_simp
          refine hK.out _ _ ?_ (fun hHeld => ?_)
          · (try dsimp only); go_keep
          clear hK K
          try simp only [Act.put, List.setIfInBounds_toArray, List.set_cons_zero, List.set_cons_succ]
          refine wpAnyH_ready (rs := [17]) (by kernel_rfl) (by simp) ?_
          refine AllReadyH.cons (o := _) rfl (fun K hK => ?_) AllReadyH.nil
          try go_simp
          refine (first3_new _ _ _ _).mono ?_
          rintro e w' ⟨rfl, rfl⟩
          try go_simp
          refine hK.out _ _ ?_ (fun hHeld => ?_)
          · (try dsimp only); assumption
          clear hK K
          try simp only [Act.put, List.setIfInBounds_toArray, List.set_cons_zero, List.set_cons_succ]
          refine wpAnyH_ready (rs := [18]) (by kernel_rfl) (by simp) ?_
          refine AllReadyH.cons (o := _) rfl (fun K hK => ?_) AllReadyH.nil
          try go_simp
          refine hK.out _ _ ?_ (fun hHeld => ?_)
          · (try dsimp only); assumption
          clear hK K
          try simp only [Act.put, List.setIfInBounds_toArray, List.set_cons_zero, List.set_cons_succ]
          refine wpAnyH_done (by kernel_rfl) ?_ _
          go_wp2_with fail
          go_meet
          case rel => exact ⟨by rw [← HWD.out], Lib.hid (below_alloc (below_step (Below.refl wu.heap.size wu).drew hbv) _)⟩
      case rest =>
      obtain ⟨rfl, HF⟩ := hcut
      obtain ⟨wy, rfl⟩ : ∃ wy, wy = wc := ⟨_, rfl⟩
      have HTy := Lib.hid (HTu.out.later HF.out)
      have BY := Lib.hid (below_step BU.out HF.out)
      clear HF HTu BU k3 k4 k5 k6 k7 k8 l1 l2
      rcases HD.out with ⟨hE, rfl⟩ | ⟨hE, rfl⟩
      · have e1 : (diffErr a2 b2 n2 a3 b3 n3 != 0) = true := by simpa using hE
        clear hE
        go_wp2_with fail
        go_ret
        exact ⟨rfl, BY.out⟩
      · have hp : pageErr a2 b2 n2 = 0 ∧ pageErr a3 b3 n3 = 0 ∧ a2 = a3 ∧ b2 = b3 := by
          unfold diffErr at hE
          by_cases h : pageErr a2 b2 n2 = 0
          · rw [if_pos h] at hE
            by_cases h2 : pageErr a3 b3 n3 = 0
            · rw [if_pos h2] at hE
              by_cases h3 : a2 = a3 ∧ b2 = b3
              · exact ⟨h, h2, h3⟩
              · rw [if_neg h3] at hE; simp at hE
            · rw [if_neg h2] at hE; exact absurd hE h2
          · rw [if_neg h] at hE; exact absurd hE h
        obtain ⟨hp1, hp2, rfl, rfl⟩ := hp
        have hnn : n3 = n2 := by have h5 := (page_parts hp1).2; have h6 := (page_parts hp2).2; omega
        subst hnn
        obtain ⟨W, H, rfl, rfl, hN, w1, w2, h1, h2, hN2, he⟩ := page_nat hp1
        obtain ⟨g, o, rfl, hc0⟩ := isBools_cells HS2.out (by rw [hN]; exact Nat.mul_pos w1 h1)
        obtain ⟨g2, o2, rfl, hc1⟩ := isBools_cells HS3.out (by rw [hN]; exact Nat.mul_pos w1 h1)
        subst hN
        have HI := Lib.hid (differOf_any W H g o c2 g2 o2 c3 z y wy ⟨w1, w2⟩ ⟨h1, h2⟩ (fun j hj => cell_later BY.out (hc0 j hj)) (fun j hj => cell_later BY.out (hc1 j hj)))
        have e1 : (diffErr W H (W * H) W H (W * H) != 0) = false := by simpa using hE
        have e2 : (diffErr W H (W * H) W H (W * H) == 0) = true := by simpa using hE
        obtain ⟨K, hK⟩ : ∃ K, K = diffN z y (W * H) := ⟨_, rfl⟩
        rw [← hK] at HI ⊢
        clear hK hE hp1 hp2 he hc0 hc1 HD
        obtain ⟨-, ⟨k3, k4, k5⟩, ⟨k6, k7, k8⟩, -⟩ := HTy.out
        have l1 := World.block_lt_of_cell? _ _ k3
        have l2 := World.block_lt_of_cell? _ _ k6
        simp only at l1 l2
        go_wp2_with (go_at_call 72; refine HI.out.mono ?_; rintro e wx ⟨rfl, hbx⟩)
        go_ret
        exact ⟨rfl, below_step BY.out hbx⟩

end Go.Proofs.Ytcpgnfbjdokdcaa
namespace Go.Proofs.Ytcpgnfbjdokdcaa
open Go.ChangeShapes Go.WideShapes Go.ChangeAt Go.RowKit Go.Joins
open Go.ChangeMaps (open_string shut_string)
set_option linter.unusedVariables false

theorem cellsBox : Try.prog.cellsOf 29 = 4 := by kernel_rfl
set_option maxRecDepth 100000 in
/-- A box by value, opened. -/
theorem open_box {W : World} {H : Type} {enc : TypeId × Value → H} {base : Nat} {spare : Nat → Bool} {held : Bool} {r : Reach} {b0 : Nat} {v : Value} {d : DataW H} {p : List MemPlace}
    (hv : Value.okWide Try.prog W r b0 29 v) (h : DataW.Trod enc Try.prog W base spare held 29 v d p) :
    ∃ X Y bw bh, v = .agg #[.int .i64 X, .int .i64 Y, .int .i64 bw, .int .i64 bh] := by
  obtain ⟨c0, c1, c2, c3, y0, y1, y2, y3, m, rfl, rfl, rfl, hy0, hy1, hy2, hy3⟩ := open_agg4 Try.underlying29 (by kernel_rfl) cellsBox hv h
  obtain ⟨a, e0, rfl, wa⟩ := DataW.trod_int Try.underlying3 hy0
  obtain ⟨b, e1, rfl, wb⟩ := DataW.trod_int Try.underlying3 hy1
  obtain ⟨c, e2, rfl, wc⟩ := DataW.trod_int Try.underlying3 hy2
  obtain ⟨d, e3, rfl, wd⟩ := DataW.trod_int Try.underlying3 hy3
  simp at e0 e1 e2 e3
  subst e0 e1 e2 e3
  exact ⟨a, b, c, d, rfl⟩

end Go.Proofs.Ytcpgnfbjdokdcaa
namespace Go.Proofs.Ytcpgnfbjdokdcaa
open Go.ChangeShapes Go.WideShapes Go.ChangeAt Go.RowKit Go.Joins
set_option linter.unusedVariables false

set_option maxRecDepth 100000 in
theorem counts_lifted (os : Os) (started : os.Started) (H : Type) (enc : TypeId × Value → H) :
    ReturnsInHanded {} Try.checked os 6 .any (Rows.countsMatchSpec.pre6 enc Try.prog Try.f6 Rows.countsMatchRow.domain false) (Rows.countsMatchSpec.post enc Try.prog Try.f6 false true false false) := by
  refine returnsInHanded_of_change (C := Try.checked) own started (by kernel_rfl) Try.func6
    (ChangeSpec.witness6 (enc := enc) (C := Try.checked) false ⟨#[], #[.agg #[.int .i64 0, .int .i64 0, .slice none 0 0], .agg #[.int .i64 0, .int .i64 0, .slice none 0 0], .agg #[.int .i64 0, .int .i64 0, .slice none 0 0], .int .i64 0, .agg #[.int .i64 0, .int .i64 0, .int .i64 0, .int .i64 0]], []⟩ 8 (by kernel_rfl) (by kernel_rfl) (by kernel_rfl) (by kernel_rfl)) ?_
  intro W base args ds gs before hval0 hW hcnd _
  have hval : ∀ (j : Nat) t v, Try.f6.params[j]? = some t → args[j]? = some v → Value.okWide Try.prog W .any base t v := hval0
  have hW' := hW
  obtain ⟨p, q, hA0, hV, rfl, hfz, hnd⟩ := hW
  have hA : DataW.TrodAll enc Try.prog W 0 (fun _ => true) true Try.f6.params.toList args.toList ds p := hA0
  rw [Try.params6] at hA hval
  obtain ⟨v0, vs0, d0, ds0, p0, q0, hargs, rfl, rfl, h0, r0⟩ := trodAll_cons hA
  obtain ⟨v1, vs1, d1, ds1, p1, q1, rfl, rfl, rfl, h1, r1⟩ := trodAll_cons r0
  obtain ⟨v2, vs2, d2, ds2, p2, q2, rfl, rfl, rfl, h2, r2⟩ := trodAll_cons r1
  obtain ⟨v3, vs3, d3, ds3, p3, q3, rfl, rfl, rfl, h3, r3⟩ := trodAll_cons r2
  obtain ⟨v4, vs4, d4, ds4, p4, q4, rfl, rfl, rfl, h4, r4⟩ := trodAll_cons r3
  obtain ⟨rfl, rfl, rfl⟩ := trodAll_nil r4
  obtain rfl : args = #[v0, v1, v2, v3, v4] := by cases args; simp_all
  obtain ⟨rfl, rfl⟩ := trodVars_none hV
  have k0 := h0
  have k1 := h1
  have k2 := h2
  have k4 := h4
  have lt0 : ∀ x ∈ p0, x.block < W.heap.size := by obtain ⟨m, hm⟩ := k0; exact DataW.trod_lt m _ _ _ hm
  have lt1 : ∀ x ∈ p1, x.block < W.heap.size := by obtain ⟨m, hm⟩ := k1; exact DataW.trod_lt m _ _ _ hm
  have lt2 : ∀ x ∈ p2, x.block < W.heap.size := by obtain ⟨m, hm⟩ := k2; exact DataW.trod_lt m _ _ _ hm
  have lt4 : ∀ x ∈ p4, x.block < W.heap.size := by obtain ⟨m, hm⟩ := k4; exact DataW.trod_lt m _ _ _ hm
  obtain ⟨a0, b0, s0, n0, c0, zs, rfl, hs0⟩ := open_gray (hval 0 27 v0 rfl rfl) h0
  obtain ⟨a1, b1, s1, n1, c1, z1, rfl, hs1⟩ := open_bits (hval 1 24 v1 rfl rfl) h1
  obtain ⟨a2, b2, s2, n2, c2, z2, rfl, hs2⟩ := open_bits (hval 2 24 v2 rfl rfl) h2
  obtain ⟨m3, rfl, rfl, rfl, w3⟩ := open_int Try.underlying3 (hval 3 3 v3 rfl rfl) h3
  obtain ⟨X, Y, bw, bh, rfl⟩ := open_box (hval 4 29 v4 rfl rfl) h4
  clear hA0 hval0
  refine (count_walk a0 b0 s0 n0 c0 zs a1 b1 s1 n1 c1 z1 a2 b2 s2 n2 c2 z2 m3 X Y bw bh W hs0 hs1 hs2).mono fun e W' ⟨he, bel⟩ => ?_
  subst he
  exact ⟨_, rfl, _, _, _, [], _, [], hW', trodAll_mk1 (shut_bool Try.underlying4 _), (trodAll_cons_mk (Below.trod laidOut (by kernel_rfl) (of_decide_eq_true (by kernel_rfl)) k0 bel lt0) (trodAll_cons_mk (Below.trod laidOut (by kernel_rfl) (of_decide_eq_true (by kernel_rfl)) k1 bel lt1) (trodAll_cons_mk (Below.trod laidOut (by kernel_rfl) (of_decide_eq_true (by kernel_rfl)) k2 bel lt2) (trodAll_cons_mk (shut_int Try.underlying3 w3) (trodAll_cons_mk (Below.trod laidOut (by kernel_rfl) (of_decide_eq_true (by kernel_rfl)) k4 bel lt4) trodAll_mk0))))), rfl, bel.frame _, fun h => by cases h⟩

theorem counts_over : Rows.countsMatchRow.holds Try.pinned (OpenSpec.ofChange Rows.countsMatchSpec) :=
  OpenClaim.holds_of_wide 6 Try.f6 rfl rfl rfl rfl rfl rfl rfl ⟨rfl, rfl, rfl, rfl, rfl⟩ rfl rfl rfl rfl rfl (by kernel_rfl) Try.func6 (by kernel_rfl)
    (of_decide_eq_true (by kernel_rfl)) (by unfold Func.isWrapper; first | (rw [if_pos (by decide +kernel)]; kernel_rfl) | (rw [if_neg (by decide +kernel)]; exact ⟨rfl, rfl⟩))
    (fun os started H enc _ => counts_lifted os started H enc)

theorem counts_holds : Rows.CountsMatchSaid := counts_over
end Go.Proofs.Ytcpgnfbjdokdcaa
