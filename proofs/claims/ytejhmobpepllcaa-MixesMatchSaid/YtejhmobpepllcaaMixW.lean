/-
  The walk of the law MixesMatch: it returns true, and turns nothing that was there.
-/
import Derived.Test.YtejhmobpepllcaaMixA
import Derived.Test.YtejhmobpepllcaaName
import Derived.Deep.DeepCutAuto
namespace Go.Proofs.Ytejhmobpepllcaa
open Go.RowKit
set_option linter.unusedSimpArgs false
set_option linter.unusedVariables false

/-- The five arguments that lie in boxes. -/
def Boxes5 (B : Nat) (a0 b0 : Int) (s0 : Option Addr) (n0 c0 : Nat) (a1 b1 : Int) (s1 : Option Addr) (n1 c1 : Nat) (a2 b2 : Int) (s2 : Option Addr) (n2 c2 : Nat) (x y : Int) (w : World) : Prop :=
  (w.cell? ⟨B, 0, none⟩ = some (.int .i64 a0) ∧ w.cell? ⟨B, 1, none⟩ = some (.int .i64 b0) ∧ w.cell? ⟨B, 2, none⟩ = some (.slice s0 n0 c0)) ∧
  (w.cell? ⟨B + 1, 0, none⟩ = some (.int .i64 a1) ∧ w.cell? ⟨B + 1, 1, none⟩ = some (.int .i64 b1) ∧ w.cell? ⟨B + 1, 2, none⟩ = some (.slice s1 n1 c1)) ∧
  (w.cell? ⟨B + 2, 0, none⟩ = some (.int .i64 a2) ∧ w.cell? ⟨B + 2, 1, none⟩ = some (.int .i64 b2) ∧ w.cell? ⟨B + 2, 2, none⟩ = some (.slice s2 n2 c2)) ∧
  w.cell? ⟨B + 3, 0, none⟩ = some (.int .i64 x) ∧ w.cell? ⟨B + 4, 0, none⟩ = some (.int .i64 y)

theorem Boxes5.later {B : Nat} {a0 b0 : Int} {s0 : Option Addr} {n0 c0 : Nat} {a1 b1 : Int} {s1 : Option Addr} {n1 c1 : Nat} {a2 b2 : Int} {s2 : Option Addr} {n2 c2 : Nat} {x y : Int} {w w' : World} (h : Boxes5 B a0 b0 s0 n0 c0 a1 b1 s1 n1 c1 a2 b2 s2 n2 c2 x y w) (hb : Below w.heap.size w w') :
    Boxes5 B a0 b0 s0 n0 c0 a1 b1 s1 n1 c1 a2 b2 s2 n2 c2 x y w' := by
  obtain ⟨⟨g0, g1, g2⟩, ⟨k0, k1, k2⟩, ⟨m0, m1, m2⟩, e0, e1⟩ := h
  exact ⟨⟨cell_later hb g0, cell_later hb g1, cell_later hb g2⟩, ⟨cell_later hb k0, cell_later hb k1, cell_later hb k2⟩, ⟨cell_later hb m0, cell_later hb m1, cell_later hb m2⟩, cell_later hb e0, cell_later hb e1⟩

theorem half_wrap {W : Nat} (h : W ≤ 4000) : IntKind.i64.wrap ((IntKind.i64.wrap ((W : Int) + 1)).tdiv 2) = ((W : Int) + 1) / 2 := by
  have h1 : IntKind.i64.wrap ((W : Int) + 1) = (W : Int) + 1 := IntWalk.i64_in _ (by omega)
  rw [h1, Int.tdiv_eq_ediv_of_nonneg (by omega)]
  exact IntWalk.i64_in _ (by omega)

set_option maxHeartbeats 4000000 in
set_option maxRecDepth 100000 in
theorem mix_walk (a0 b0 : Int) (s0 : Option Addr) (n0 c0 : Nat) (zs : List Int) (a1 b1 : Int) (s1 : Option Addr) (n1 c1 : Nat) (z1 : Nat → Bool) (a2 b2 : Int) (s2 : Option Addr) (n2 c2 : Nat) (z2 : Nat → Bool) (x y : Int) (w : World) (hs0 : IsBytes w s0 n0 c0 zs) (hs1 : IsBools w s1 n1 c1 z1) (hs2 : IsBools w s2 n2 c2 z2) :
    Calls Try.prog 5 #[.agg #[.int .i64 a0, .int .i64 b0, .slice s0 n0 c0], .agg #[.int .i64 a1, .int .i64 b1, .slice s1 n1 c1], .agg #[.int .i64 a2, .int .i64 b2, .slice s2 n2 c2], .int .i64 x, .int .i64 y] w fun e w' => e = .returned (.bool true) ∧ Below w.heap.size w w' := by
  have HS0 := Lib.hid hs0
  have HS1 := Lib.hid hs1
  have HS2 := Lib.hid hs2
  clear hs0 hs1 hs2
  go_enter Try.func5, Try.ntmps5
  go_wp2_with fail
  obtain ⟨w0, hw0⟩ : ∃ w0, w0 = ((((w.alloc (.cells #[.int .i64 a0, .int .i64 b0, .slice s0 n0 c0] 27)).alloc (.cells #[.int .i64 a1, .int .i64 b1, .slice s1 n1 c1] 24)).alloc (.cells #[.int .i64 a2, .int .i64 b2, .slice s2 n2 c2] 24)).alloc (.cells #[.int .i64 x] 3)).alloc (.cells #[.int .i64 y] 3) := ⟨_, rfl⟩
  have B0 : Below w.heap.size w w0 := by rw [hw0]; exact below_alloc (below_alloc (below_alloc (below_alloc (new_below _ _) _) _) _) _
  have T0 : Boxes5 w.heap.size a0 b0 s0 n0 c0 a1 b1 s1 n1 c1 a2 b2 s2 n2 c2 x y w0 := by
    rw [hw0]
    refine ⟨⟨?_, ?_, ?_⟩, ⟨?_, ?_, ?_⟩, ⟨?_, ?_, ?_⟩, ?_, ?_⟩ <;> go_simp
  rw [← hw0]
  clear hw0
  refine (halve_any a0 b0 s0 n0 c0 zs w0 (isBytes_later HS0.out B0)).mono ?_
  rintro e wa ⟨i, j, sl, n', c', rfl, hI, hba⟩
  have HI := Lib.hid hI
  have HTa := Lib.hid (T0.later (below_step hba (new_below wa (.cells #[.int .i64 i, .int .i64 j, .slice sl n' c'] 27))))
  have BA := Lib.hid (below_alloc (below_step B0 hba) (.cells #[.int .i64 i, .int .i64 j, .slice sl n' c'] 27))
  obtain ⟨⟨k0, k1, k2⟩, -, -, -, -⟩ := T0.later hba
  have l0 := World.block_lt_of_cell? _ _ k0
  simp only at l0
  clear hI hba B0 T0
  go_wp2_with fail
  refine (grayError_any a0 b0 s0 n0 c0 _).mono ?_
  rintro e wb ⟨rfl, hbb⟩
  have HTb := Lib.hid (HTa.out.later hbb)
  have HNb := Lib.hid (below_block hbb (heap_alloc_new wa (.cells #[.int .i64 i, .int .i64 j, .slice sl n' c'] 27)))
  have HIb := Lib.hid ((HI.out.later (new_below wa (.cells #[.int .i64 i, .int .i64 j, .slice sl n' c'] 27))).later hbb)
  have BB := Lib.hid (below_step BA.out hbb)
  clear hbb HTa HI BA k0 k1 k2 l0
  obtain ⟨⟨k0, k1, k2⟩, -, -, -, -⟩ := HTb.out
  obtain ⟨p0, p1, p2, pr0, pr1, pr2⟩ := block3 HNb.out
  have l0 := World.block_lt_of_cell? _ _ k0
  have l3 := World.block_lt_of_cell? _ _ p0
  simp only at l0 l3
  clear pr0 pr1 pr2
  go_upto_if 24 with fail
  go_cut [12, 13] from 16 (fun _ _ wx => Hid (Boxes5 w.heap.size a0 b0 s0 n0 c0 a1 b1 s1 n1 c1 a2 b2 s2 n2 c2 x y wx ∧ Below w.heap.size w wx))
  case first =>
    by_cases hE : pageErr a0 b0 n0 = 0
    · have HE := Lib.hid hE
      obtain ⟨W, H, rfl, rfl, hn, w1, w2, h1, h2, hN, he⟩ := page_nat hE
      have HNN := Lib.hid hn
      obtain ⟨p2, d1⟩ : ∃ v : Nat, ((W : Int) + 1) / 2 = (v : Int) := ⟨(W + 1) / 2, by omega⟩
      obtain ⟨q2, d2⟩ : ∃ v : Nat, ((H : Int) + 1) / 2 = (v : Int) := ⟨(H + 1) / 2, by omega⟩
      have d1' : IntKind.i64.wrap ((IntKind.i64.wrap ((W : Int) + 1)).tdiv 2) = (p2 : Int) := by rw [half_wrap (by omega)]; exact d1
      have d2' : IntKind.i64.wrap ((IntKind.i64.wrap ((H : Int) + 1)).tdiv 2) = (q2 : Int) := by rw [half_wrap (by omega)]; exact d2
      have D1 := Lib.hid d1'
      have D2 := Lib.hid d2'
      clear d1' d2'
      have HM := Lib.hid (made_halve W H p2 q2 i j sl s0 n' c' n0 c0 w.heap.size w0.heap.size zs wb.drew (HIb.out.later (Below.refl wb.heap.size wb).drew) HE.out (isBytes_later HS0.out BB.out.drew) d1.symm d2.symm (cell_later (Below.refl wb.heap.size wb).drew HTb.out.1.1) (cell_later (Below.refl wb.heap.size wb).drew HTb.out.1.2.1) (cell_later (Below.refl wb.heap.size wb).drew HTb.out.1.2.2))
      clear hn hN
      go_wp2_with fail
      refine (small_any W H _ he).mono ?_
      rintro e wq ⟨q, rfl, rfl⟩
      cases q
      · go_wp2_with fail
        go_meet
        case rel => exact Lib.hid ⟨HTb.out, BB.out⟩
      · obtain ⟨e1, e2, hdn, g', zc, e3, hzc, hcall⟩ := HM.out
        have HCALL := Lib.hid hcall
        have HZC := Lib.hid hzc
        subst e1 e2
        clear hcall hzc HM he
        go_wp2_with fail
        go_region_held3 (fun w' => w'.cell? ⟨wa.heap.size, 0, none⟩ = some (.int .i64 p2) ∧ w'.cell? ⟨wa.heap.size, 1, none⟩ = some (.int .i64 q2) ∧ w'.cell? ⟨wa.heap.size, 2, none⟩ = some (.slice sl n' c') ∧ w'.cell? ⟨w.heap.size, 0, none⟩ = some (.int .i64 W) ∧ w'.cell? ⟨w.heap.size, 1, none⟩ = some (.int .i64 H))
          (first | (go_keep; done) | (go_split_ands; exact ⟨cell_later hbn (by assumption), cell_later hbn (by assumption), cell_later hbn (by assumption), cell_later hbn (by assumption), cell_later hbn (by assumption)⟩) | (go_split_ands; exact ⟨cell_later hbo (by assumption), cell_later hbo (by assumption), cell_later hbo (by assumption), cell_later hbo (by assumption), cell_later hbo (by assumption)⟩))
          ((first | (go_at_call 33; rw [D1.out, D2.out]; with_reducible refine HCALL.out.mono ?_; rintro e wn ⟨g2, cc2, rfl, hz2, hbn⟩; have HZ2 := Lib.hid hz2; clear hz2) | (go_at_call 32; with_reducible refine (sameGray_true _ _ g' 0 g2 0 n' c' cc2 zc _ hdn (fun j hj => cell_later hbn (HZC.out j hj)) HZ2.out).mono ?_; rintro e wo ⟨rfl, hbo⟩)))
        all_goals go_wp2_with fail
        all_goals go_meet
        case rel => exact Lib.hid ⟨HTb.out.later (below_step (below_step (Below.refl wb.heap.size wb).drew hbn) hbo), below_step (below_step BB.out.drew hbn) hbo⟩
    · rcases HIb.out with ⟨_, y1, y2, y3, y4, y5⟩ | ⟨h0, _⟩
      · have hE1 : (pageErr a0 b0 n0 != 0) = true := by simpa using hE
        clear hE
        subst y1 y2 y3 y4 y5
        go_wp2_with (first | (go_at_call 31; refine (noGray_zero _).mono ?_; rintro e wz ⟨rfl, hbz⟩))
        go_meet
        case rel => exact Lib.hid ⟨HTb.out.later hbz, below_step BB.out hbz⟩
      · exact absurd h0 hE
  case rest =>
    have HF := hcut
    obtain ⟨wf, rfl⟩ : ∃ wf, wf = wc := ⟨_, rfl⟩
    clear k0 k1 k2 p0 p1 p2 l0 l3 HTb HNb HIb BB hcut
    have HTf := Lib.hid HF.out.1
    have BF := Lib.hid HF.out.2
    clear HF
    obtain ⟨-, ⟨k0, k1, k2⟩, ⟨m0, m1, m2⟩, e0, e1⟩ := HTf.out
    go_wp2_with fail
    refine (paste_any a1 b1 s1 n1 c1 a2 b2 s2 n2 c2 x y z1 z2 wf (isBools_later HS1.out BF.out) (isBools_later HS2.out BF.out)).mono ?_
    rintro e wg ⟨pi, pj, ps, pn, pc, rfl, hI, hbg⟩
    have hng := new_below wg (.cells #[.int .i64 pi, .int .i64 pj, .slice ps pn pc] 24)
    have HIh := Lib.hid (hI.later hng)
    have HTh := Lib.hid (HTf.out.later (below_step hbg hng))
    have BH := Lib.hid (below_step (below_step BF.out hbg) hng)
    have HNh := Lib.hid (heap_alloc_new wg (.cells #[.int .i64 pi, .int .i64 pj, .slice ps pn pc] 24))
    clear hI hbg hng BF k0 k1 k2 m0 m1 m2 e0 e1 HTf
    obtain ⟨wh, hwh⟩ : ∃ wh, wh = wg.alloc (.cells #[.int .i64 pi, .int .i64 pj, .slice ps pn pc] 24) := ⟨_, rfl⟩
    rw [← hwh] at HIh HTh BH HNh
    go_upto_region 10 with fail
    rw [← hwh]
    clear hwh
    obtain ⟨-, ⟨k0, k1, k2⟩, ⟨m0, m1, m2⟩, -, -⟩ := HTh.out
    have l1 := World.block_lt_of_cell? _ _ k0
    have l2 := World.block_lt_of_cell? _ _ m0
    simp only at l1 l2
    go_cut [15] from 16 (fun t wx => t = .int .i64 (pasteErr a1 b1 n1 a2 b2 n2) ∧ Hid (Boxes5 w.heap.size a0 b0 s0 n0 c0 a1 b1 s1 n1 c1 a2 b2 s2 n2 c2 x y wx ∧ wx.heap[wg.heap.size]? = some (.cells #[.int .i64 pi, .int .i64 pj, .slice ps pn pc] 24 (0, 0)) ∧ PasteIs a1 b1 n1 a2 b2 n2 x y z1 z2 wf.heap.size wx pi pj ps pn pc ∧ Below w.heap.size w wx))
    case first =>
      go_region_held3 (fun w' => w'.cell? ⟨w.heap.size + 1, 0, none⟩ = some (.int .i64 a1) ∧ w'.cell? ⟨w.heap.size + 1, 1, none⟩ = some (.int .i64 b1) ∧ w'.cell? ⟨w.heap.size + 1, 2, none⟩ = some (.slice s1 n1 c1) ∧
          w'.cell? ⟨w.heap.size + 2, 0, none⟩ = some (.int .i64 a2) ∧ w'.cell? ⟨w.heap.size + 2, 1, none⟩ = some (.int .i64 b2) ∧ w'.cell? ⟨w.heap.size + 2, 2, none⟩ = some (.slice s2 n2 c2))
        (first | (go_keep; done) | (go_split_ands; exact ⟨cell_later hbi (by assumption), cell_later hbi (by assumption), cell_later hbi (by assumption), cell_later hbi (by assumption), cell_later hbi (by assumption), cell_later hbi (by assumption)⟩) | (go_split_ands; exact ⟨cell_later hbk (by assumption), cell_later hbk (by assumption), cell_later hbk (by assumption), cell_later hbk (by assumption), cell_later hbk (by assumption), cell_later hbk (by assumption)⟩))
        ((first | (go_at_call 12; with_reducible refine (bitsError_any a1 b1 s1 n1 c1 _).mono ?_; rintro e wi ⟨rfl, hbi⟩) | (go_at_call 12; with_reducible refine (bitsError_any a2 b2 s2 n2 c2 _).mono ?_; rintro e wk ⟨rfl, hbk⟩) | (go_at_call 25; refine (first2_new _ _ _).mono ?_; rintro e w' ⟨rfl, rfl⟩)))
      all_goals go_wp2_with fail
      all_goals go_meet
      case rel =>
        have hbz := below_alloc (below_step (below_step (Below.refl wh.heap.size wh).drew hbi) hbk) (.cells #[.int .i64 (pageErr a1 b1 n1), .int .i64 (pageErr a2 b2 n2)] 30)
        exact ⟨rfl, Lib.hid ⟨HTh.out.later hbz, below_block hbz HNh.out, HIh.out.later hbz, below_step BH.out hbz⟩⟩
    case rest =>
      obtain ⟨rfl, HF⟩ := hcut
      obtain ⟨wj, rfl⟩ : ∃ wj, wj = wc := ⟨_, rfl⟩
      clear k0 k1 k2 m0 m1 m2 l1 l2 HIh HTh BH HNh
      go_wp2_with fail
      refine (pages_any _).mono ?_
      rintro e wp ⟨rfl, hbp⟩
      have HTp := Lib.hid (HF.out.1.later hbp)
      have HNp := Lib.hid (below_block hbp HF.out.2.1)
      have HIp := Lib.hid (HF.out.2.2.1.later hbp)
      have BP := Lib.hid (below_step HF.out.2.2.2 hbp)
      clear hbp HF
      obtain ⟨-, ⟨k0, k1, k2⟩, -, -, -⟩ := HTp.out
      obtain ⟨p0, p1, p2, pr0, pr1, pr2⟩ := block3 HNp.out
      have l1 := World.block_lt_of_cell? _ _ k0
      have l3 := World.block_lt_of_cell? _ _ p0
      simp only at l1 l3
      clear pr0 pr1 pr2
      have HB := Lib.hid (bitsIs_paste a1 b1 s1 n1 c1 a2 b2 s2 n2 c2 x y pi pj ps pn pc (w.heap.size + 1) (w.heap.size + 2) (w.heap.size + 3) (w.heap.size + 4) wf.heap.size z1 z2 wp HIp.out (isBools_later HS1.out BP.out) (isBools_later HS2.out BP.out) HTp.out.2.1.1 HTp.out.2.1.2.1 HTp.out.2.1.2.2 HTp.out.2.2.1.1 HTp.out.2.2.1.2.1 HTp.out.2.2.1.2.2 HTp.out.2.2.2.1 HTp.out.2.2.2.2)
      by_cases hP : pasteErr a1 b1 n1 a2 b2 n2 = 0
      · have hsz := (page_parts (pasteErr_zero hP).1).1
        have hP1 : (pasteErr a1 b1 n1 a2 b2 n2 == 0) = true := by simpa using hP
        clear hP
        go_wp2_with fail
        refine (small_any a1 b1 _ hsz).mono ?_
        rintro e wq ⟨q, rfl, rfl⟩
        cases q
        · go_wp2_with fail
          refine (pages_any _).mono ?_
          rintro e wr ⟨rfl, hbr⟩
          go_wp2_with fail
          go_ret
          exact ⟨rfl, below_step BP.out hbr⟩
        · go_wp2_with fail
          refine HB.out.mono ?_
          rintro e wr ⟨rfl, hbr⟩
          go_wp2_with fail
          go_ret
          exact ⟨rfl, below_step BP.out hbr⟩
      · have hP1 : (pasteErr a1 b1 n1 a2 b2 n2 == 0) = false := by simpa using hP
        clear hP
        go_wp2_with fail
        refine HB.out.mono ?_
        rintro e wr ⟨rfl, hbr⟩
        go_wp2_with fail
        go_ret
        exact ⟨rfl, below_step BP.out hbr⟩

end Go.Proofs.Ytejhmobpepllcaa
