/-
  The walk of the law CutsMatch: it returns true, and turns nothing that was there.
-/
import Derived.Test.YtejhmobpepllcaaCutsY
import Derived.Test.YtejhmobpepllcaaName
import Derived.Deep.DeepCutAuto
namespace Go.Proofs.Ytejhmobpepllcaa
open Go.RowKit
set_option linter.unusedSimpArgs false
set_option linter.unusedVariables false

/-- The three arguments that lie in boxes. -/
def Boxes (B : Nat) (a1 b1 : Int) (s1 : Option Addr) (n1 c1 : Nat) (a2 b2 : Int) (s2 : Option Addr) (n2 c2 : Nat) (X Y bw bh : Int) (w : World) : Prop :=
  w.cell? ⟨B, 0, none⟩ = some (.int .i64 a1) ∧ w.cell? ⟨B, 1, none⟩ = some (.int .i64 b1) ∧ w.cell? ⟨B, 2, none⟩ = some (.slice s1 n1 c1) ∧
  w.cell? ⟨B + 1, 0, none⟩ = some (.int .i64 a2) ∧ w.cell? ⟨B + 1, 1, none⟩ = some (.int .i64 b2) ∧ w.cell? ⟨B + 1, 2, none⟩ = some (.slice s2 n2 c2) ∧
  w.cell? ⟨B + 2, 0, none⟩ = some (.int .i64 X) ∧ w.cell? ⟨B + 2, 1, none⟩ = some (.int .i64 Y) ∧ w.cell? ⟨B + 2, 2, none⟩ = some (.int .i64 bw) ∧ w.cell? ⟨B + 2, 3, none⟩ = some (.int .i64 bh)

theorem Boxes.later {B : Nat} {a1 b1 : Int} {s1 : Option Addr} {n1 c1 : Nat} {a2 b2 : Int} {s2 : Option Addr} {n2 c2 : Nat} {X Y bw bh : Int} {w w' : World} (h : Boxes B a1 b1 s1 n1 c1 a2 b2 s2 n2 c2 X Y bw bh w) (hb : Below w.heap.size w w') :
    Boxes B a1 b1 s1 n1 c1 a2 b2 s2 n2 c2 X Y bw bh w' := by
  obtain ⟨k0, k1, k2, k3, k4, k5, k6, k7, k8, k9⟩ := h
  exact ⟨cell_later hb k0, cell_later hb k1, cell_later hb k2, cell_later hb k3, cell_later hb k4, cell_later hb k5, cell_later hb k6, cell_later hb k7, cell_later hb k8, cell_later hb k9⟩

theorem Boxes.far3 {B : Nat} {a1 b1 : Int} {s1 : Option Addr} {n1 c1 : Nat} {a2 b2 : Int} {s2 : Option Addr} {n2 c2 : Nat} {X Y bw bh : Int} {w : World} (h : Boxes B a1 b1 s1 n1 c1 a2 b2 s2 n2 c2 X Y bw bh w) {N : Nat} (hN : B + 2 < N) (x y z : Value) :
    Boxes B a1 b1 s1 n1 c1 a2 b2 s2 n2 c2 X Y bw bh (((w.setCell ⟨N, 0, none⟩ x).setCell ⟨N, 1, none⟩ y).setCell ⟨N, 2, none⟩ z) := by
  obtain ⟨k0, k1, k2, k3, k4, k5, k6, k7, k8, k9⟩ := h
  have e0 : B ≠ N := by omega
  have e1 : B + 1 ≠ N := by omega
  have e2 : B + 2 ≠ N := by omega
  exact ⟨cell_far3 e0 k0, cell_far3 e0 k1, cell_far3 e0 k2, cell_far3 e1 k3, cell_far3 e1 k4, cell_far3 e1 k5, cell_far3 e2 k6, cell_far3 e2 k7, cell_far3 e2 k8, cell_far3 e2 k9⟩

set_option maxHeartbeats 4000000 in
set_option maxRecDepth 100000 in
theorem cuts_walk (a1 b1 : Int) (s1 : Option Addr) (n1 c1 : Nat) (z : Nat → Bool) (a2 b2 : Int) (s2 : Option Addr) (n2 c2 : Nat) (zs : List Int) (X Y bw bh m k : Int) (nm : ByteArray) (w : World)
    (hs1 : IsBools w s1 n1 c1 z) (hs2 : IsBytes w s2 n2 c2 zs) (hnm : nm.size ≤ 9223372036854775807) :
    Calls Try.prog 3 #[.agg #[.int .i64 a1, .int .i64 b1, .slice s1 n1 c1], .agg #[.int .i64 a2, .int .i64 b2, .slice s2 n2 c2], .agg #[.int .i64 X, .int .i64 Y, .int .i64 bw, .int .i64 bh], .int .i64 m, .int .i64 k, .string nm] w fun e w' => e = .returned (.bool true) ∧ Below w.heap.size w w' := by
  have HS1 := Lib.hid hs1
  have HS2 := Lib.hid hs2
  clear hs1 hs2
  go_enter Try.func3, Try.ntmps3
  go_wp2_with fail
  obtain ⟨w0, hw0⟩ : ∃ w0, w0 = ((w.alloc (.cells #[.int .i64 a1, .int .i64 b1, .slice s1 n1 c1] 24)).alloc (.cells #[.int .i64 a2, .int .i64 b2, .slice s2 n2 c2] 27)).alloc (.cells #[.int .i64 X, .int .i64 Y, .int .i64 bw, .int .i64 bh] 29) := ⟨_, rfl⟩
  have B0 : Below w.heap.size w w0 := by rw [hw0]; exact below_alloc (below_alloc (new_below _ _) _) _
  have T0 : Boxes w.heap.size a1 b1 s1 n1 c1 a2 b2 s2 n2 c2 X Y bw bh w0 := by
    rw [hw0]
    refine ⟨?_, ?_, ?_, ?_, ?_, ?_, ?_, ?_, ?_, ?_⟩ <;> go_simp
  rw [← hw0]
  clear hw0
  obtain ⟨k0, k1, k2, k3, k4, k5, k6, k7, k8, k9⟩ := T0
  have HT0 := Lib.hid (show Boxes w.heap.size a1 b1 s1 n1 c1 a2 b2 s2 n2 c2 X Y bw bh w0 from ⟨k0, k1, k2, k3, k4, k5, k6, k7, k8, k9⟩)
  go_region_held3 (fun w' => w'.cell? ⟨w.heap.size, 0, none⟩ = some (.int .i64 a1) ∧ w'.cell? ⟨w.heap.size, 1, none⟩ = some (.int .i64 b1) ∧ w'.cell? ⟨w.heap.size, 2, none⟩ = some (.slice s1 n1 c1) ∧
      w'.cell? ⟨w.heap.size + 1, 0, none⟩ = some (.int .i64 a2) ∧ w'.cell? ⟨w.heap.size + 1, 1, none⟩ = some (.int .i64 b2) ∧ w'.cell? ⟨w.heap.size + 1, 2, none⟩ = some (.slice s2 n2 c2))
    (first | (go_keep; done) | (go_split_ands; exact ⟨cell_later hba (by assumption), cell_later hba (by assumption), cell_later hba (by assumption), cell_later hba (by assumption), cell_later hba (by assumption), cell_later hba (by assumption)⟩) | (go_split_ands; exact ⟨cell_later hbb (by assumption), cell_later hbb (by assumption), cell_later hbb (by assumption), cell_later hbb (by assumption), cell_later hbb (by assumption), cell_later hbb (by assumption)⟩))
    ((first | (go_at_call 12; refine (bitsError_any _ _ _ _ _ _).mono ?_; rintro e wa ⟨rfl, hba⟩) | (go_at_call 13; refine (grayError_any _ _ _ _ _ _).mono ?_; rintro e wb ⟨rfl, hbb⟩)))
  have Bb := below_step (below_step (Below.refl w0.heap.size w0).drew hba) hbb
  have HTb := Lib.hid (HT0.out.later Bb)
  have BB := Lib.hid (below_step B0 Bb)
  clear k0 k1 k2 k3 k4 k5 k6 k7 k8 k9 hba hbb B0 HT0 Bb
  go_wp2_with fail
  refine (blank_any m k wb).mono ?_
  rintro e wN ⟨bi, bj, bs, bn, bc, rfl, hbc, hz1, hz2⟩
  have hB2 := Lib.hid (show w.heap.size + 2 < wN.heap.size from World.block_lt_of_cell? _ _ (cell_later hbc HTb.out.2.2.2.2.2.2.1))
  have HZ1 := Lib.hid hz1
  have HZ2 := Lib.hid hz2
  have HTc := Lib.hid (HTb.out.later (below_step hbc (new_below wN (.cells #[.int .i64 bi, .int .i64 bj, .slice bs bn bc] 24))))
  have BC := Lib.hid (below_alloc (below_step BB.out hbc) (.cells #[.int .i64 bi, .int .i64 bj, .slice bs bn bc] 24))
  clear hbc hz1 hz2 HTb BB
  go_wp2_with fail
  refine (pages_any _).mono ?_
  rintro e wd ⟨rfl, hbd⟩
  obtain ⟨k0, k1, k2, k3, k4, k5, k6, k7, k8, k9⟩ := HTc.out.later hbd
  have HTd := Lib.hid (HTc.out.later hbd)
  have l0 := World.block_lt_of_cell? _ _ k0
  have l1 := World.block_lt_of_cell? _ _ k3
  have l2 := World.block_lt_of_cell? _ _ k6
  have hN := below_block hbd (heap_alloc_new wN (.cells #[.int .i64 bi, .int .i64 bj, .slice bs bn bc] 24))
  have lN := (Array.getElem?_eq_some_iff.1 hN).1
  obtain ⟨p0, p1, p2, pr0, pr1, pr2⟩ := block3 hN
  have HN := Lib.hid hN
  have BD := Lib.hid (below_step BC.out hbd)
  have HBD := Lib.hid hbd
  simp only at l0 l1 l2
  clear hbd HTc BC hN
  go_wp2_with (first | (go_at_call 16; refine (checkBits_any _ _ _ _ _ _).mono ?_; rintro e w' ⟨rfl, rfl⟩) | (go_at_call 17; refine (checkGray_any _ _ _ _ _ _).mono ?_; rintro e w' ⟨rfl, rfl⟩) | (go_at_call 18; refine (isName_any nm _ hnm).mono ?_; rintro e wq ⟨q1, rfl, hq1, rfl⟩; have HQ1 := Lib.hid hq1; clear hq1) | (go_at_call 19; refine (nameOf_any nm _ hnm).mono ?_; rintro e wq ⟨q2, rfl, hq2, rfl⟩; have hq12 : q2 = q1 := by { cases q1 <;> cases q2 <;> simp_all [Hid] }; subst hq12; clear hq2))
  refine (sizeError_any m k _).mono ?_
  rintro e we ⟨rfl, hbe⟩
  have Be := Lib.hid (below_step (below_alloc (new_below wd _) _) hbe)
  have HTe := Lib.hid (HTd.out.later Be.out)
  have HNe := Lib.hid (below_block Be.out HN.out)
  have BE := Lib.hid (below_step BD.out Be.out)
  have LN := Lib.hid lN
  clear k0 k1 k2 k3 k4 k5 k6 k7 k8 k9 l0 l1 l2 lN p0 p1 p2 pr0 pr1 pr2 hbe HTd BD HN
  obtain ⟨p0, p1, p2, pr0, pr1, pr2⟩ := block3 HNe.out
  obtain ⟨k0, k1, k2, k3, k4, k5, k6, k7, k8, k9⟩ := HTe.out
  have l0 := World.block_lt_of_cell? _ _ k0
  have l1 := World.block_lt_of_cell? _ _ k3
  have l2 := World.block_lt_of_cell? _ _ k6
  have lN := World.block_lt_of_cell? _ _ p0
  simp only at l0 l1 l2 lN
  go_upto_region 6 with fail
  go_cut [16, 17, 99] from 20 (fun _ _ t wx => t = .bool false ∧ Hid (Boxes w.heap.size a1 b1 s1 n1 c1 a2 b2 s2 n2 c2 X Y bw bh wx ∧ wx.heap[wN.heap.size]? = some (.cells #[.int .i64 bi, .int .i64 bj, .slice bs bn bc] 24 (0, 0)) ∧ Below w.heap.size w wx))
  case first =>
    by_cases hs0 : sizeErr m k = 0
    · obtain ⟨y1, y2, y3, gg, y4, y5⟩ := HZ2.out hs0
      obtain ⟨_, y6, y7⟩ := sizeErr_zero hs0
      have Y5 := Lib.hid (fun j hj => cell_later (below_step (below_step (new_below wN (.cells #[.int .i64 bi, .int .i64 bj, .slice bs bn bc] 24)) HBD.out) Be.out) (y5 j hj))
      have hbn : bn ≤ 100000000 := by omega
      clear y5
      go_wp2_with (first | (go_at_call 22; refine (contains_no gg bn bc _ hbn Y5.out).mono ?_; rintro e wq ⟨rfl, rfl⟩))
      go_meet
      case rel => exact ⟨rfl, Lib.hid ⟨HTe.out, HNe.out, BE.out⟩⟩
    · obtain ⟨y1, y2, y3, y4, y5⟩ := HZ1.out hs0
      have hs1 : (sizeErr m k != 0) = true := by simpa using hs0
      have hs2 : (sizeErr m k == 0) = false := by simpa using hs0
      clear hs0
      go_wp2_with (first | (go_at_call 21; refine (noBits_zero _).mono ?_; rintro e wf ⟨rfl, hbf⟩))
      go_meet
      case rel => exact ⟨rfl, Lib.hid ⟨HTe.out.later hbf, below_block hbf HNe.out, below_step BE.out hbf⟩⟩
  case rest =>
    obtain ⟨rfl, HF⟩ := hcut
    obtain ⟨wf, rfl⟩ : ∃ wf, wf = wc := ⟨_, rfl⟩
    clear k0 k1 k2 k3 k4 k5 k6 k7 k8 k9 p0 p1 p2 pr0 pr1 pr2 l0 l1 l2 lN HTe HNe BE Be HZ1 HZ2 HBD
    have BFw := Lib.hid HF.out.2.2
    obtain ⟨k0, k1, k2, k3, k4, k5, k6, k7, k8, k9⟩ := HF.out.1
    go_wp2_with fail
    refine (cut_any a1 b1 X Y bw bh s1 n1 c1 z wf (isBools_later HS1.out BFw.out)).mono ?_
    rintro e wg ⟨ci, cj, cs, cn, cc, rfl, hI, hbg⟩
    have HI := Lib.hid hI
    have HTg := Lib.hid (HF.out.1.later hbg)
    have HNg := Lib.hid (below_block hbg HF.out.2.1)
    have BG := Lib.hid (below_step BFw.out hbg)
    have lNf := Lib.hid (Array.getElem?_eq_some_iff.1 HF.out.2.1).1
    clear hI hbg BFw k0 k1 k2 k3 k4 k5 k6 k7 k8 k9
    obtain ⟨p0, p1, p2, pr0, pr1, pr2⟩ := block3 HNg.out
    go_wp2_with fail
    obtain ⟨wh, hwh⟩ : ∃ wh, wh = ((wg.setCell ⟨wN.heap.size, 0, none⟩ (.int .i64 ci)).setCell ⟨wN.heap.size, 1, none⟩ (.int .i64 cj)).setCell ⟨wN.heap.size, 2, none⟩ (.slice cs cn cc) := ⟨_, rfl⟩
    have HIh := Lib.hid (show CutIs a1 b1 n1 X Y bw bh z wf.heap.size wh ci cj cs cn cc by rw [hwh]; exact HI.out.far3 lNf.out _ _ _)
    have HTh := Lib.hid (show Boxes w.heap.size a1 b1 s1 n1 c1 a2 b2 s2 n2 c2 X Y bw bh wh by rw [hwh]; exact HTg.out.far3 hB2.out _ _ _)
    have HNh := Lib.hid (show wh.heap[wN.heap.size]? = some (.cells #[.int .i64 ci, .int .i64 cj, .slice cs cn cc] 24 (0, 0)) by
      rw [hwh]
      exact heap_setCell_same _ wN.heap.size 2 #[.int .i64 ci, .int .i64 cj, .slice bs bn bc] 24 _ (heap_setCell_same _ wN.heap.size 1 #[.int .i64 ci, .int .i64 bj, .slice bs bn bc] 24 _ (heap_setCell_same _ wN.heap.size 0 #[.int .i64 bi, .int .i64 bj, .slice bs bn bc] 24 _ HNg.out)))
    have BH := Lib.hid (show Below w.heap.size w wh by rw [hwh]; exact below_far3 BG.out (by have := hB2.out; omega))
    rw [← hwh]
    clear hwh p0 p1 p2 pr0 pr1 pr2 HI HTg HNg BG HF lNf
    obtain ⟨k0, k1, k2, k3, k4, k5, k6, k7, k8, k9⟩ := HTh.out
    obtain ⟨p0, p1, p2, pr0, pr1, pr2⟩ := block3 HNh.out
    clear k2 k3 k4 k5 pr0 pr1 pr2
    go_upto_region 9 with fail
    go_cut [121] from 100 (fun t wx => t = .bool false ∧ Hid (Boxes w.heap.size a1 b1 s1 n1 c1 a2 b2 s2 n2 c2 X Y bw bh wx ∧ Below w.heap.size w wx))
    case first =>
      go_region_held3 (fun w' => w'.cell? ⟨wN.heap.size, 0, none⟩ = some (.int .i64 ci) ∧ w'.cell? ⟨wN.heap.size, 1, none⟩ = some (.int .i64 cj) ∧ w'.cell? ⟨wN.heap.size, 2, none⟩ = some (.slice cs cn cc) ∧
        w'.cell? ⟨w.heap.size, 0, none⟩ = some (.int .i64 a1) ∧ w'.cell? ⟨w.heap.size, 1, none⟩ = some (.int .i64 b1) ∧
        w'.cell? ⟨w.heap.size + 2, 0, none⟩ = some (.int .i64 X) ∧ w'.cell? ⟨w.heap.size + 2, 1, none⟩ = some (.int .i64 Y) ∧ w'.cell? ⟨w.heap.size + 2, 2, none⟩ = some (.int .i64 bw) ∧ w'.cell? ⟨w.heap.size + 2, 3, none⟩ = some (.int .i64 bh))
        (first | (go_keep; done) | (go_split_ands; exact ⟨cell_later hbi (by assumption), cell_later hbi (by assumption), cell_later hbi (by assumption), cell_later hbi (by assumption), cell_later hbi (by assumption), cell_later hbi (by assumption), cell_later hbi (by assumption), cell_later hbi (by assumption), cell_later hbi (by assumption)⟩) | (go_split_ands; exact ⟨cell_later hbk (by assumption), cell_later hbk (by assumption), cell_later hbk (by assumption), cell_later hbk (by assumption), cell_later hbk (by assumption), cell_later hbk (by assumption), cell_later hbk (by assumption), cell_later hbk (by assumption), cell_later hbk (by assumption)⟩))
        ((first | (go_at_call 27; refine (inPage_any X Y bw bh a1 b1 _).mono ?_; rintro e wi ⟨q, rfl, hq, hbi⟩; have hqw := want_cut (n := n1) hq; clear hq; have hbh := below_alloc (below_step (Below.refl wh.heap.size wh).drew hbi) (.cells #[.int .i64 (pageErr a1 b1 n1), .int .i64 (whenI (!q) 13)] 30)) | (go_at_call 26; refine (when_any _ _ _).mono ?_; rintro e w' ⟨rfl, rfl⟩) | (go_at_call 25; refine (first2_new _ _ _).mono ?_; rintro e w' ⟨rfl, rfl⟩) | (go_at_call 24; refine (bitsIs_cut a1 b1 X Y bw bh ci cj cs s1 cn cc n1 c1 w.heap.size (w.heap.size + 2) wf.heap.size z _ (HIh.out.later hbh) (isBools_later HS1.out (below_step BH.out hbh)) (cell_later hbh HTh.out.1) (cell_later hbh HTh.out.2.1) (cell_later hbh HTh.out.2.2.1) (cell_later hbh HTh.out.2.2.2.2.2.2.1) (cell_later hbh HTh.out.2.2.2.2.2.2.2.1) (cell_later hbh HTh.out.2.2.2.2.2.2.2.2.1) (cell_later hbh HTh.out.2.2.2.2.2.2.2.2.2)).mono ?_; rintro e wk ⟨rfl, hbk⟩)))
      all_goals
        go_wp2_with fail
        go_meet
        case rel => exact ⟨rfl, Lib.hid ⟨(HTh.out.later hbh).later hbk, below_step (below_step BH.out hbh) hbk⟩⟩
    case rest =>
      obtain ⟨rfl, HF⟩ := hcut
      obtain ⟨wj, rfl⟩ : ∃ wj, wj = wc := ⟨_, rfl⟩
      clear k0 k1 k6 k7 k8 k9 p0 p1 p2 HIh HTh HNh BH
      have BJ := Lib.hid HF.out.2
      obtain ⟨k0, k1, k2, k3, k4, k5, k6, k7, k8, k9⟩ := HF.out.1
      go_wp2_with fail
      refine (cutGray_any a2 b2 X Y bw bh s2 n2 c2 zs wj (isBytes_later HS2.out BJ.out)).mono ?_
      rintro e wl ⟨di, dj, ds, dn, dc, rfl, hJ, hbl⟩
      have HJ := Lib.hid hJ
      have HTl := Lib.hid (HF.out.1.later hbl)
      have BL := Lib.hid (below_step BJ.out hbl)
      clear hJ hbl BJ k0 k1 k2 k3 k4 k5 k6 k7 k8 k9 HF
      obtain ⟨k0, k1, k2, k3, k4, k5, k6, k7, k8, k9⟩ := HTl.out
      have l0 := World.block_lt_of_cell? _ _ k0
      have l1 := World.block_lt_of_cell? _ _ k3
      have l2 := World.block_lt_of_cell? _ _ k6
      simp only at l0 l1 l2
      go_wp2_with fail
      refine (inPage_any X Y bw bh a2 b2 _).mono ?_
      rintro e wi ⟨q, rfl, hq, hbi⟩
      have hqw := want_cut (n := n2) hq
      have Hl := Lib.hid (below_step (new_below wl (.cells #[.int .i64 di, .int .i64 dj, .slice ds dn dc] 27)) hbi)
      have HNi := Lib.hid (below_block hbi (heap_alloc_new wl (.cells #[.int .i64 di, .int .i64 dj, .slice ds dn dc] 27)))
      clear hq hbi k0 k1 k2 k3 k4 k5 k6 k7 k8 k9 l0 l1 l2
      obtain ⟨p0, p1, p2, pr0, pr1, pr2⟩ := block3 HNi.out
      obtain ⟨k0, k1, k2, k3, k4, k5, k6, k7, k8, k9⟩ := HTl.out.later Hl.out
      have l0 := World.block_lt_of_cell? _ _ k0
      have l1 := World.block_lt_of_cell? _ _ k3
      have l2 := World.block_lt_of_cell? _ _ k6
      have l3 := World.block_lt_of_cell? _ _ p0
      simp only at l0 l1 l2 l3
      clear pr0 pr1 pr2
      by_cases hE : cutErr a2 b2 n2 X Y bw bh = 0
      · have hbm := below_alloc (Hl.out) (.cells #[.int .i64 (pageErr a2 b2 n2), .int .i64 (whenI (!q) 13)] 30)
        obtain ⟨e1, e2, hdn, g', zc, e3, hzc, hcall⟩ := made_cut a2 b2 X Y bw bh di dj ds s2 dn dc n2 c2 (w.heap.size + 1) (w.heap.size + 2) wj.heap.size zs (wi.alloc (.cells #[.int .i64 (pageErr a2 b2 n2), .int .i64 (whenI (!q) 13)] 30)).drew
          (HJ.out.later hbm.drew) hE (isBytes_later HS2.out (below_step BL.out hbm.drew)) (cell_later hbm.drew HTl.out.2.2.2.1) (cell_later hbm.drew HTl.out.2.2.2.2.2.1) (cell_later hbm.drew HTl.out.2.2.2.2.2.2.1) (cell_later hbm.drew HTl.out.2.2.2.2.2.2.2.1)
        have HCALL := Lib.hid hcall
        have HZC := Lib.hid hzc
        have HBM := Lib.hid hbm
        clear hcall hzc hbm k0 k1 k2 k3 k4 k5 k6 k7
        go_wp2_with (first | (go_at_call 26; refine (when_any _ _ _).mono ?_; rintro e w' ⟨rfl, rfl⟩) | (go_at_call 25; refine (first2_new _ _ _).mono ?_; rintro e w' ⟨rfl, rfl⟩))
        go_region_held3 (fun w' => w'.cell? ⟨wl.heap.size, 0, none⟩ = some (.int .i64 di) ∧ w'.cell? ⟨wl.heap.size, 1, none⟩ = some (.int .i64 dj) ∧ w'.cell? ⟨wl.heap.size, 2, none⟩ = some (.slice ds dn dc) ∧ w'.cell? ⟨w.heap.size + 2, 2, none⟩ = some (.int .i64 bw) ∧ w'.cell? ⟨w.heap.size + 2, 3, none⟩ = some (.int .i64 bh))
          (first | (go_keep; done) | (go_split_ands; exact ⟨cell_later hbn (by assumption), cell_later hbn (by assumption), cell_later hbn (by assumption), cell_later hbn (by assumption), cell_later hbn (by assumption)⟩) | (go_split_ands; exact ⟨cell_later hbo (by assumption), cell_later hbo (by assumption), cell_later hbo (by assumption), cell_later hbo (by assumption), cell_later hbo (by assumption)⟩))
          ((first | (go_at_call 33; refine HCALL.out.mono ?_; rintro e wn ⟨g2, cc2, rfl, hz2, hbn⟩; have HZ2 := Lib.hid hz2; clear hz2) | (go_at_call 32; refine (sameGray_true bw bh g' 0 g2 0 dn dc cc2 zc _ hdn (fun j hj => cell_later hbn (HZC.out j hj)) HZ2.out).mono ?_; rintro e wo ⟨rfl, hbo⟩)))
        all_goals go_wp2_with fail
        all_goals go_ret
        all_goals exact ⟨rfl, below_step (below_step (below_step BL.out HBM.out.drew) hbn) hbo⟩
      · rcases HJ.out with ⟨_, y1, y2, y3, y4, y5⟩ | ⟨h0, _⟩
        · have hE1 : (cutErr a2 b2 n2 X Y bw bh != 0) = true := by simpa using hE
          clear hE
          go_wp2_with (first | (go_at_call 26; refine (when_any _ _ _).mono ?_; rintro e w' ⟨rfl, rfl⟩) | (go_at_call 25; refine (first2_new _ _ _).mono ?_; rintro e w' ⟨rfl, rfl⟩) | (go_at_call 31; refine (noGray_zero _).mono ?_; rintro e wz ⟨rfl, hbz⟩))
          go_ret
          exact ⟨rfl, below_step (below_alloc (below_step BL.out Hl.out) _) hbz⟩
        · exact absurd h0 hE

end Go.Proofs.Ytejhmobpepllcaa
