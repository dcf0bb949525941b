/-
  What finds_holds leans on: contracts of the functions that it calls.
-/
import Derived.Test.YtcpgnfbjdokdcaaRows
import Derived.WalkKit
import Derived.WalkSpells
import Derived.WalkLawsBesides
import Derived.Lib.Hide
import Derived.Deep.RegionHeld3
import Derived.Shelf.Abstract
import Derived.Deep.AppendLies
import Derived.Deep.DrawnRows
import Derived.Deep.RegionLaw
import Derived.Deep.QuietTactic
import Derived.BigQuiet
import Derived.ProofKit
import Derived.OpenShut
import Derived.ShutString
import Derived.ChangeOld
import Derived.Lib.SmallJoins
import Derived.Deep.Grids
import Derived.Deep.DeepCutAuto
import Derived.Lib.MinMax
import Derived.Deep.CutRange
import Derived.Laws.EntriesVeiled
import Derived.StillTailTactics
import Derived.RegionTactic
import Derived.ChangeAlike
import Derived.BigRegion
import Derived.Test.YtcpgnfbjdokdcaaCFinds5
namespace Go.Proofs.Ytcpgnfbjdokdcaa
open Go.RowKit
set_option linter.unusedSimpArgs false
set_option linter.unusedVariables false

/-- What is found when i of the two numbers of a magnitude have been tried. -/
def pAt (sc : Int → Int) (k i : Nat) : Int × Int := if i = 0 then bestUp sc k else if i = 1 then stepV sc (bestUp sc k) ((k + 1 : Nat) : Int) else bestUp sc (k + 1)
def twoN (m : Int) (i : Nat) : Int := if i = 0 then m else -m
theorem pAt_step (sc : Int → Int) (k i : Nat) (hi : i < 2) : pAt sc k (i + 1) = stepV sc (pAt sc k i) (twoN ((k + 1 : Nat) : Int) i) := by
  rcases (show i = 0 ∨ i = 1 by omega) with rfl | rfl
  · rfl
  · rfl
theorem step_fst {sc : Int → Int} {p : Int × Int} {n : Int} (h : p.2 < sc n) : stepV sc p n = (n, sc n) := by unfold stepV; rw [if_pos h]
theorem step_snd {sc : Int → Int} {p : Int × Int} {n : Int} (h : ¬ p.2 < sc n) : stepV sc p n = p := by unfold stepV; rw [if_neg h]

set_option maxHeartbeats 1000000 in
theorem bestR_any (most clo : Nat) (capt : Array Value) (sc : Int → Int) (w : World) (hm : most ≤ 256)
    (eg : ∀ (args : Array Value) (W : World), (callFunc clo args).run Try.prog W = .ok (.enter clo args) W)
    (hc : ∀ (n : Int) (wx : World), -(most : Int) ≤ n → n ≤ most → Below w.heap.size w wx → Calls Try.prog clo (#[.int .i64 n] ++ capt) wx fun e w' => e = .returned (.int .i64 (sc n)) ∧ Below wx.heap.size wx w') :
    Calls Try.prog 140 #[.int .i64 most, .func (.func clo) #[] capt] w fun e w' => e = .returned (.int .i64 (bestUp sc most).1) ∧ Below w.heap.size w w' := by
  have HC := Lib.hid hc
  clear hc
  go_enter Try.func140, Try.ntmps140
  go_wp2_with fail
  refine (HC.out 0 w (by omega) (by omega) (Below.refl _ _)).mono ?_
  rintro e w2 ⟨rfl, hb2⟩
  obtain ⟨s0, hs0⟩ : ∃ s0, s0 = sc 0 := ⟨_, rfl⟩
  rw [← hs0]
  have R0 := Lib.hid (show bestUp sc 0 = (0, s0) ∧ Below w.heap.size w w2 from ⟨by rw [hs0]; rfl, hb2⟩)
  clear hb2 hs0
  go_wp2_with fail
  go_loopw [5, 6, 7] (fun a b i wr => ∃ (k : Nat) (x y : Int), k ≤ most ∧ i = .int .i64 ((k + 1 : Nat) : Int) ∧ a = .int .i64 x ∧ b = .int .i64 y ∧ Hid (bestUp sc k = (x, y) ∧ Below w.heap.size w wr)) (fun _ _ i _ => most + 1 - (intOf i).toNat)
  case atStart => exact ⟨0, 0, s0, Nat.zero_le _, rfl, rfl, rfl, R0⟩
  case round =>
    obtain ⟨k, x, y, hk, rfl, rfl, rfl, HX⟩ := hrel
    clear R0
    by_cases hlt : k < most
    · obtain ⟨m, hm1⟩ : ∃ m : Nat, m = k + 1 := ⟨_, rfl⟩
      rw [← hm1]
      have hm2 : m ≤ 256 := by omega
      have hm3 : m ≤ most := by omega
      have hm0 : 1 ≤ m := by omega
      have HM1 := Lib.hid hm1
      clear hm1
      obtain ⟨wo, rfl⟩ : ∃ wo : World, wo = wr := ⟨_, rfl⟩
      go_wp2_with fail
      obtain ⟨w3, hw3⟩ : ∃ w3, w3 = wo.alloc (.cells #[.int .i64 (m : Int), .int .i64 (-(m : Int))] 3) := ⟨_, rfl⟩
      have B3 : Below wo.heap.size wo w3 := by rw [hw3]; exact new_below _ _
      have c0 : w3.cell? ⟨wo.heap.size, 0, none⟩ = some (.int .i64 (m : Int)) := by rw [hw3]; go_simp
      have c1 : w3.cell? ⟨wo.heap.size, 1, none⟩ = some (.int .i64 (-(m : Int))) := by rw [hw3]; go_simp
      rw [← hw3]
      clear hw3
      have HB3 := Lib.hid (below_step HX.out.2 B3)
      have HCC := Lib.hid (fun i (hi : i < 2) => show w3.cell? ⟨wo.heap.size, i, none⟩ = some (.int .i64 (twoN (m : Int) i)) from by
        rcases (show i = 0 ∨ i = 1 by omega) with rfl | rfl
        · exact c0
        · exact c1)
      clear B3 c0 c1
      go_loopw [5, 6, 23] (fun a b i wr => ∃ (j : Nat) (x y : Int), j ≤ 2 ∧ i = .int .i64 j ∧ a = .int .i64 x ∧ b = .int .i64 y ∧ Hid (pAt sc k j = (x, y) ∧ Below w3.heap.size w3 wr)) (fun _ _ i _ => 2 - (intOf i).toNat)
      case atStart => exact ⟨0, x, y, Nat.zero_le _, rfl, rfl, rfl, Lib.hid ⟨HX.out.1, Below.refl _ _⟩⟩
      case round =>
        obtain ⟨j, x', y', hj, rfl, rfl, rfl, HY⟩ := hrel
        by_cases hltj : j < 2
        · have hcell := cell_later HY.out.2 (HCC.out j hltj)
          obtain ⟨n, hn⟩ : ∃ n, n = twoN (m : Int) j := ⟨_, rfl⟩
          rw [← hn] at hcell
          have hnb : -(most : Int) ≤ n ∧ n ≤ most := by rw [hn]; unfold twoN; split <;> omega
          have HN := Lib.hid hn
          have i1 : (j : Int) < 2 := by omega
          have HCL := Lib.hid (HC.out n wr hnb.1 hnb.2 (below_step HB3.out HY.out.2))
          clear hn
          go_wp2_with fail
          refine HCL.out.mono ?_
          rintro e w4 ⟨rfl, hb4⟩
          obtain ⟨s, hs⟩ : ∃ s, s = sc n := ⟨_, rfl⟩
          rw [← hs]
          have HS := Lib.hid hs
          have B4 := Lib.hid (HY.out.2.trans (hb4.mono HY.out.2.size))
          have hst := pAt_step sc k j hltj
          rw [← HM1.out, ← HN.out, HY.out.1] at hst
          by_cases hlt2 : y' < s
          · have h2 : pAt sc k (j + 1) = (n, s) := by rw [hst, step_fst (by rw [← HS.out]; exact hlt2), ← HS.out]
            have H2 := Lib.hid h2
            clear hst h2 hb4 hs
            go_wp2_with fail
            go_roundw
            case rel => exact ⟨j + 1, n, s, by omega, by go_num, rfl, rfl, Lib.hid ⟨H2.out, B4.out⟩⟩
            case measure => simp [intOf]; omega
          · have h2 : pAt sc k (j + 1) = (x', y') := by rw [hst, step_snd (by rw [← HS.out]; exact hlt2)]
            have H2 := Lib.hid h2
            clear hst h2 hb4 hs
            go_wp2_with fail
            go_roundw
            case rel => exact ⟨j + 1, x', y', by omega, by go_num, rfl, rfl, Lib.hid ⟨H2.out, B4.out⟩⟩
            case measure => simp [intOf]; omega
        · have hje : j = 2 := by omega
          subst hje
          go_wp2_with fail
          go_roundw
          case rel => exact ⟨k + 1, x', y', by omega, by have := HM1.out; go_num, rfl, rfl, Lib.hid ⟨HY.out.1, below_step HB3.out HY.out.2⟩⟩
          case measure => have := HM1.out; simp [intOf]; omega
    · have hke : k = most := by omega
      subst hke
      go_wp2_with fail
      go_ret
      exact ⟨ret_int (by rw [HX.out.1]), HX.out.2⟩

end Go.Proofs.Ytcpgnfbjdokdcaa
namespace Go.Proofs.Ytcpgnfbjdokdcaa
open Go.RowKit
set_option linter.unusedSimpArgs false
set_option linter.unusedVariables false

theorem findOf1_any (W H gb g o c : Nat) (n : Int) (z : Nat → Bool) (w : World) (hW : 1 ≤ W ∧ W ≤ 4000) (hH : 1 ≤ H ∧ H ≤ 4000) (hN : W * H ≤ 1048576) (hn : -256 ≤ n ∧ n ≤ 256)
    (h0 : w.cell? ⟨gb, 0, none⟩ = some (.int .i64 W)) (h1 : w.cell? ⟨gb, 1, none⟩ = some (.int .i64 H)) (h2 : w.cell? ⟨gb, 2, none⟩ = some (.slice (some ⟨g, o, none⟩) (W * H) c)) (hp : ∀ j, j < W * H → w.cell? ⟨g, o + j, none⟩ = some (.bool (z j))) :
    Calls Try.prog 141 #[.int .i64 n, .pointer (some ⟨gb, 0, none⟩)] w fun e w' => e = .returned (.int .i64 (scoreV (inkQ z W) W H n)) ∧ Below w.heap.size w w' := by
  have HC := Lib.hid (profileR_ok W H g o c (-n) z w hW hH hN (by omega) hp)
  obtain ⟨s, hs⟩ : ∃ s, s = scoreV (inkQ z W) W H n := ⟨_, rfl⟩
  rw [← hs]
  obtain ⟨n1, n2⟩ := hn
  have HS := Lib.hid hs
  clear hs hp
  go_enter Try.func141, Try.ntmps141
  go_wp2_with fail
  refine HC.out.mono ?_
  rintro e w2 ⟨v, rfl, hown, hb2⟩
  obtain ⟨pg, pc, rfl, _, hcell⟩ := owns_ints hown (by omega)
  have HCE := Lib.hid hcell
  have G := Lib.hid hb2
  clear hb2 hown hcell
  go_wp2_with fail
  refine (squareR_any (2 * H) pg 0 pc (profV (inkQ z W) W H (-n)) w2 (by omega) (fun j => Nat.le_trans (profUp_le _ _ _ _ _ _) hW.2) HCE.out).mono ?_
  rintro e w3 ⟨rfl, rfl⟩
  rw [show ((sqSum (profV (inkQ z W) W H (-n)) (2 * H) : Nat) : Int) = s from HS.out.symm]
  go_wp2_with fail
  go_ret
  exact ⟨rfl, G.out⟩

theorem findOf_any (W H g o c most : Nat) (z : Nat → Bool) (w : World) (hW : 1 ≤ W ∧ W ≤ 4000) (hH : 1 ≤ H ∧ H ≤ 4000) (hN : W * H ≤ 1048576) (hm : most ≤ 256) (hp : ∀ j, j < W * H → w.cell? ⟨g, o + j, none⟩ = some (.bool (z j))) :
    Calls Try.prog 86 #[.agg #[.int .i64 W, .int .i64 H, .slice (some ⟨g, o, none⟩) (W * H) c], .int .i64 most] w fun e w' => e = .returned (.int .i64 (bestUp (scoreV (inkQ z W) W H) most).1) ∧ Below w.heap.size w w' := by
  have hmf : ∀ (fn : Fn) (first cap : Array Value) (w : World), (Instr.makeFunc fn first cap).run Try.prog w = .ok (.func fn first cap) w := fun _ _ _ _ => rfl
  have HC := Lib.hid hp
  clear hp
  go_enter Try.func86, Try.ntmps86
  go_wp2_with fail
  obtain ⟨w1, hw1⟩ : ∃ w1, w1 = w.alloc (.cells #[.int .i64 W, .int .i64 H, .slice (some ⟨g, o, none⟩) (W * H) c] 24) := ⟨_, rfl⟩
  have B1 : Below w.heap.size w w1 := by rw [hw1]; exact new_below _ _
  obtain ⟨p0, p1, p2, _, _, _⟩ := block3 (w := w1) (b := w.heap.size) (x := .int .i64 W) (y := .int .i64 H) (z := .slice (some ⟨g, o, none⟩) (W * H) c) (t := 24) (by rw [hw1]; exact heap_alloc_new _ _)
  rw [← hw1]
  clear hw1
  refine (bestR_any most 141 _ (scoreV (inkQ z W) W H) w1 hm (Go.Proofs.enters_of Try.func141 (by kernel_rfl) rfl) ?_).mono ?_
  · intro n wx h1 h2 hbx
    exact findOf1_any W H w.heap.size g o c n z wx hW hH hN (by omega) (cell_later hbx p0) (cell_later hbx p1) (cell_later hbx p2) (fun j hj => cell_later (below_step B1 hbx) (HC.out j hj))
  · rintro e w5 ⟨rfl, hb5⟩
    have G5 := Lib.hid (below_step B1 hb5)
    obtain ⟨F, hF⟩ : ∃ F, F = (bestUp (scoreV (inkQ z W) W H) most).1 := ⟨_, rfl⟩
    have HF := Lib.hid hF
    rw [← hF]
    clear hb5 hF p0 p1 p2 B1
    go_wp2_with fail
    go_ret
    exact ⟨ret_int HF.out, G5.out⟩

theorem slant_hit (z : Nat → Bool) (W H : Nat) (n : Int) (x y : Nat) (hx : x < W) (hy : y < H) : (slantZ W H z (-n) (y * W + x)).toNat = hitC (inkT z W) W ((x : Int) - fallV H n y) y := by
  obtain ⟨d1, d2⟩ := idx_mod (h := W) (x := y) hx
  unfold slantZ
  rw [d1, d2, Int.neg_neg]
  unfold atB hitC inkT
  by_cases h : 0 ≤ (x : Int) - fallV H n y ∧ (x : Int) - fallV H n y < (W : Int)
  · rw [if_pos ⟨⟨h.1, by omega⟩, by omega, by omega⟩, if_pos h, Int.toNat_natCast]
  · rw [if_neg (by omega), if_neg h]; rfl
theorem slant_prof (z : Nat → Bool) (W H : Nat) (n : Int) (x : Nat) (hx : x < W) (m : Nat) (hm : m ≤ H) :
    sumN (fun y => (slantZ W H z (-n) (y * W + x)).toNat) m = profUp (inkT z W) W (fallV H n) ((W / 2 : Nat) : Int) (W / 2 + x) m := by
  induction m with
  | zero => rfl
  | succ m ih =>
    rw [sumN, profUp, ih (by omega), slant_hit z W H n x m hx (by omega)]
    congr 2
    omega
theorem col_ink (z : Nat → Bool) (W x H : Nat) : inkB z W x 0 1 H = sumN (fun y => (z (y * W + x)).toNat) H := by
  unfold inkB ink1
  congr 1
  funext y
  simp [sumN]
theorem sumN_bool_le (f : Nat → Bool) (n : Nat) : sumN (fun y => (f y).toNat) n ≤ n := by
  induction n with
  | zero => exact Nat.le_refl _
  | succ n ih => rw [sumN]; cases f n <;> simp <;> omega
theorem slant_score (z : Nat → Bool) (W H : Nat) (n : Int) : (sqSum (fun x => inkB (slantZ W H z (-n)) W x 0 1 H) W : Int) = slantV z W H n := by
  unfold slantV
  congr 1
  apply sqSum_congr
  intro j hj
  rw [col_ink, slant_prof z W H n j hj H (Nat.le_refl _)]
  rfl

theorem findSlantOf1_any (W H gb g o c : Nat) (n : Int) (z : Nat → Bool) (w : World) (hW : 1 ≤ W ∧ W ≤ 4000) (hH : 1 ≤ H ∧ H ≤ 4000) (hN : W * H ≤ 1048576) (hn : -256 ≤ n ∧ n ≤ 256)
    (h0 : w.cell? ⟨gb, 0, none⟩ = some (.int .i64 W)) (h1 : w.cell? ⟨gb, 1, none⟩ = some (.int .i64 H)) (h2 : w.cell? ⟨gb, 2, none⟩ = some (.slice (some ⟨g, o, none⟩) (W * H) c)) (hp : ∀ j, j < W * H → w.cell? ⟨g, o + j, none⟩ = some (.bool (z j))) :
    Calls Try.prog 145 #[.int .i64 n, .pointer (some ⟨gb, 0, none⟩)] w fun e w' => e = .returned (.int .i64 (slantV z W H n)) ∧ Below w.heap.size w w' := by
  have HC := Lib.hid (slantRf_any W H g o c (-n) z w hW hH hN (by omega) hp)
  obtain ⟨s, hs⟩ : ∃ s, s = slantV z W H n := ⟨_, rfl⟩
  rw [← hs]
  obtain ⟨n1, n2⟩ := hn
  have HS := Lib.hid (show s = (sqSum (fun x => inkB (slantZ W H z (-n)) W x 0 1 H) W : Int) from by rw [slant_score]; exact hs)
  clear hs hp
  go_enter Try.func145, Try.ntmps145
  go_wp2_with fail
  refine HC.out.mono ?_
  rintro e w2 ⟨g', c', rfl, hz2, hb2⟩
  have HZ := Lib.hid hz2
  have G := Lib.hid hb2
  clear hz2 hb2
  go_wp2_with fail
  refine (columnsOf_any W H g' 0 c' (slantZ W H z (-n)) w2 hW hH HZ.out).mono ?_
  rintro e w3 ⟨v, rfl, hown, hb3⟩
  obtain ⟨pg, pc, rfl, hpg⟩ : ∃ pg pc, v = .slice (some ⟨pg, 0, none⟩) W pc ∧ ∀ j, j < W → w3.cell? ⟨pg, 0 + j, none⟩ = some (.int .i64 ((inkB (slantZ W H z (-n)) W j 0 1 H : Nat) : Int)) := by
    rcases hown.2 with ⟨_, h0⟩ | ⟨pg, cap, cur, h0, _⟩
    · omega
    · subst h0
      refine ⟨pg, cap, rfl, fun j hj => ?_⟩
      have := hown.cellAt j (by omega)
      rw [numsOf_get _ _ _ hj] at this
      rw [Nat.zero_add]; exact this
  have HCE := Lib.hid hpg
  have G3 := Lib.hid (below_step G.out hb3)
  clear hpg hown hb3
  go_wp2_with fail
  refine (squareR_any W pg 0 pc (fun x => inkB (slantZ W H z (-n)) W x 0 1 H) w3 (by omega) (fun j => by rw [col_ink]; exact Nat.le_trans (sumN_bool_le _ _) hH.2) HCE.out).mono ?_
  rintro e w4 ⟨rfl, rfl⟩
  rw [← HS.out]
  go_wp2_with fail
  go_ret
  exact ⟨rfl, G3.out⟩

theorem findSlantOf_any (W H g o c most : Nat) (z : Nat → Bool) (w : World) (hW : 1 ≤ W ∧ W ≤ 4000) (hH : 1 ≤ H ∧ H ≤ 4000) (hN : W * H ≤ 1048576) (hm : most ≤ 256) (hp : ∀ j, j < W * H → w.cell? ⟨g, o + j, none⟩ = some (.bool (z j))) :
    Calls Try.prog 88 #[.agg #[.int .i64 W, .int .i64 H, .slice (some ⟨g, o, none⟩) (W * H) c], .int .i64 most] w fun e w' => e = .returned (.int .i64 (bestUp (slantV z W H) most).1) ∧ Below w.heap.size w w' := by
  have hmf : ∀ (fn : Fn) (first cap : Array Value) (w : World), (Instr.makeFunc fn first cap).run Try.prog w = .ok (.func fn first cap) w := fun _ _ _ _ => rfl
  have HC := Lib.hid hp
  clear hp
  go_enter Try.func88, Try.ntmps88
  go_wp2_with fail
  obtain ⟨w1, hw1⟩ : ∃ w1, w1 = w.alloc (.cells #[.int .i64 W, .int .i64 H, .slice (some ⟨g, o, none⟩) (W * H) c] 24) := ⟨_, rfl⟩
  have B1 : Below w.heap.size w w1 := by rw [hw1]; exact new_below _ _
  obtain ⟨p0, p1, p2, _, _, _⟩ := block3 (w := w1) (b := w.heap.size) (x := .int .i64 W) (y := .int .i64 H) (z := .slice (some ⟨g, o, none⟩) (W * H) c) (t := 24) (by rw [hw1]; exact heap_alloc_new _ _)
  rw [← hw1]
  clear hw1
  refine (bestR_any most 145 _ (slantV z W H) w1 hm (Go.Proofs.enters_of Try.func145 (by kernel_rfl) rfl) ?_).mono ?_
  · intro n wx h1 h2 hbx
    exact findSlantOf1_any W H w.heap.size g o c n z wx hW hH hN (by omega) (cell_later hbx p0) (cell_later hbx p1) (cell_later hbx p2) (fun j hj => cell_later (below_step B1 hbx) (HC.out j hj))
  · rintro e w5 ⟨rfl, hb5⟩
    have G5 := Lib.hid (below_step B1 hb5)
    obtain ⟨F, hF⟩ : ∃ F, F = (bestUp (slantV z W H) most).1 := ⟨_, rfl⟩
    have HF := Lib.hid hF
    rw [← hF]
    clear hb5 hF p0 p1 p2 B1
    go_wp2_with fail
    go_ret
    exact ⟨ret_int HF.out, G5.out⟩

end Go.Proofs.Ytcpgnfbjdokdcaa
namespace Go.Proofs.Ytcpgnfbjdokdcaa
open Go.RowKit
set_option linter.unusedSimpArgs false
set_option linter.unusedVariables false

theorem boxR_any (a b : Int) (s : Option Addr) (k c : Nat) (z : Nat → Bool) (w : World) (hs : IsBools w s k c z) :
    Calls Try.prog 80 #[.agg #[.int .i64 a, .int .i64 b, .slice s k c]] w fun e w' => ∃ X Y bw bh q, e = .returned (.tuple #[.agg #[.int .i64 X, .int .i64 Y, .int .i64 bw, .int .i64 bh], .bool q]) ∧ (pageErr a b k = 0 → q = anyInk z k) ∧ Below w.heap.size w w' := by
  obtain ⟨w1, hw1⟩ : ∃ w1, w1 = (w.alloc (.cells #[.int .i64 a, .int .i64 b, .slice s k c] 24)).alloc (.cells #[.int .i64 0, .int .i64 0, .int .i64 0, .int .i64 0] 29) := ⟨_, rfl⟩
  have B1 : Below w.heap.size w w1 := by rw [hw1]; exact below_alloc (new_below _ _) _
  have q1 : w1.heap[w.heap.size]? = some (.cells #[.int .i64 a, .int .i64 b, .slice s k c] 24 (0, 0)) := by
    rw [hw1, Below.heap_alloc _ _ _ (by simp)]; exact heap_alloc_new _ _
  have qb : w1.heap[w.heap.size + 1]? = some (.cells #[.int .i64 0, .int .i64 0, .int .i64 0, .int .i64 0] 29 (0, 0)) := by
    rw [hw1]; simpa using heap_alloc_new (w.alloc (.cells #[.int .i64 a, .int .i64 b, .slice s k c] 24)) (.cells #[.int .i64 0, .int .i64 0, .int .i64 0, .int .i64 0] 29)
  have HW := Lib.hid hw1
  have HB1 := Lib.hid B1
  have Q1 := Lib.hid q1
  have QB := Lib.hid qb
  have HS := Lib.hid hs
  clear hw1 B1 q1 qb hs
  by_cases hp : pageErr a b k = 0
  · obtain ⟨W, H, rfl, rfl, hn, hW1, hW2, hH1, hH2, hN, he⟩ := page_nat hp
    obtain ⟨g, o, rfl, hc⟩ := isBools_cells HS.out (by rw [hn]; exact Nat.mul_pos hW1 hH1)
    subst hn
    have t1 : (pageErr W H (W * H) != 0) = false := by simpa using hp
    have HCC := Lib.hid hc
    have HP := Lib.hid hp
    clear hc hp
    go_enter Try.func80, Try.ntmps80
    go_wp2_with fail
    rw [← HW.out]
    refine (bitsError_any W H (some ⟨g, o, none⟩) (W * H) c w1).mono ?_
    rintro e w2 ⟨rfl, hb2⟩
    have G2 := Lib.hid (below_step HB1.out hb2)
    have QB2 := Lib.hid (below_block hb2 QB.out)
    obtain ⟨p0, p1, p2, _, _, _⟩ := block3 (below_block hb2 Q1.out)
    clear hb2
    go_wp2_with fail
    refine (boundsOf_any W H g o c z w2 ⟨hW1, hW2⟩ ⟨hH1, hH2⟩ (fun j hj => cell_later G2.out (HCC.out j hj))).mono ?_
    rintro e w3 ⟨X, Y, bw, bh, q, rfl, hbx, hb3⟩
    have hq := box_any hW1 hbx
    have HQ := Lib.hid hq
    have G3 := Lib.hid (below_step G2.out hb3)
    obtain ⟨⟨j0, j1, j2, j3⟩, r0, r1, r2, r3⟩ := block4 (below_block hb3 QB2.out)
    clear hb3 hbx hq p0 p1 p2
    go_wp2_with fail
    exact bodyPost_ret (v := .tuple #[.agg #[.int .i64 X, .int .i64 Y, .int .i64 bw, .int .i64 bh], .bool q]) (by simp [results, Try.results80, go_sem, j0, j1, j2, j3]) rfl ⟨X, Y, bw, bh, q, rfl, fun _ => HQ.out, (((G3.out.setCell (by simp) _).setCell (by simp) _).setCell (by simp) _).setCell (by simp) _⟩
  · have t1 : (pageErr a b k != 0) = true := by simpa using hp
    have HP := Lib.hid hp
    clear hp
    go_enter Try.func80, Try.ntmps80
    go_wp2_with fail
    rw [← HW.out]
    refine (bitsError_any a b s k c w1).mono ?_
    rintro e w2 ⟨rfl, hb2⟩
    have G2 := Lib.hid (below_step HB1.out hb2)
    obtain ⟨⟨j0, j1, j2, j3⟩, r0, r1, r2, r3⟩ := block4 (below_block hb2 QB.out)
    clear hb2
    go_wp2_with fail
    exact bodyPost_ret (v := .tuple #[.agg #[.int .i64 0, .int .i64 0, .int .i64 0, .int .i64 0], .bool false]) (by simp [results, Try.results80, go_sem, j0, j1, j2, j3]) rfl ⟨0, 0, 0, 0, false, rfl, fun h => absurd h HP.out, (((G2.out.setCell (by simp) _).setCell (by simp) _).setCell (by simp) _).setCell (by simp) _⟩

end Go.Proofs.Ytcpgnfbjdokdcaa
namespace Go.Proofs.Ytcpgnfbjdokdcaa
open Go.RowKit
set_option linter.unusedSimpArgs false
set_option linter.unusedVariables false

set_option maxHeartbeats 800000 in
theorem inkCounts_ok (W H g o c : Nat) (z : Nat → Bool) (w : World) (hs : sizeErr W H = 0) (hp : ∀ j, j < W * H → w.cell? ⟨g, o + j, none⟩ = some (.bool (z j))) :
    Calls Try.prog 147 #[.agg #[.int .i64 W, .int .i64 H, .slice (some ⟨g, o, none⟩) (W * H) c]] w fun e w' =>
      ∃ rg rc cg cc, e = .returned (.tuple #[.slice (some ⟨rg, 0, none⟩) H rc, .slice (some ⟨cg, 0, none⟩) W cc, .int .i64 0]) ∧
        (∀ k, k < H → w'.cell? ⟨rg, 0 + k, none⟩ = some (.int .i64 ((inkB z W 0 k W 1 : Nat) : Int))) ∧ (∀ k, k < W → w'.cell? ⟨cg, 0 + k, none⟩ = some (.int .i64 ((inkB z W k 0 1 H : Nat) : Int))) ∧ Below w.heap.size w w' := by
  obtain ⟨⟨a1, a2, a3, a4⟩, _, _⟩ := sizeErr_zero hs
  have HC := Lib.hid hp
  have HS := Lib.hid hs
  clear hp hs
  go_enter Try.func147, Try.ntmps147
  go_wp2_with fail
  obtain ⟨w1, hw1⟩ : ∃ w1, w1 = w.alloc (.cells #[.int .i64 W, .int .i64 H, .slice (some ⟨g, o, none⟩) (W * H) c] 24) := ⟨_, rfl⟩
  have B1 : Below w.heap.size w w1 := by rw [hw1]; exact new_below _ _
  have q1 : w1.heap[w.heap.size]? = some (.cells #[.int .i64 W, .int .i64 H, .slice (some ⟨g, o, none⟩) (W * H) c] 24 (0, 0)) := by rw [hw1]; exact heap_alloc_new _ _
  rw [← hw1]
  clear hw1
  refine (rows_ok W H g o c z w1 HS.out (fun j hj => cell_later B1 (HC.out j hj))).mono ?_
  rintro e w2 ⟨v, rfl, hown, hb2⟩
  obtain ⟨rg, rc, rfl, _, hr⟩ := owns_nums hown (by omega)
  have B2 := Lib.hid (below_step B1 hb2)
  obtain ⟨p0, p1, p2, _, _, _⟩ := block3 (below_block hb2 q1)
  have HR := Lib.hid hr
  clear hb2 hr hown q1 B1
  go_wp2_with fail
  refine (columns_ok W H g o c z w2 HS.out (fun j hj => cell_later B2.out (HC.out j hj))).mono ?_
  rintro e w3 ⟨v, rfl, hown, hb3⟩
  obtain ⟨cg, cc, rfl, _, hr⟩ := owns_nums hown (by omega)
  have B3 := Lib.hid (below_step B2.out hb3)
  have HR3 := Lib.hid (fun j hj => cell_later hb3 (HR.out j hj))
  have HCC := Lib.hid hr
  clear hb3 hr hown p0 p1 p2
  go_wp2_with fail
  exact bodyPost_ret (v := .tuple #[.slice (some ⟨rg, 0, none⟩) H rc, .slice (some ⟨cg, 0, none⟩) W cc, .int .i64 0]) (by simp [results, Try.results147, go_sem]) rfl ⟨_, _, _, _, rfl, HR3.out, HCC.out, B3.out⟩

/-- Which way a page lies: by its squares. -/
def upI (z : Nat → Bool) (W H : Nat) : Int := if sqSum (fun y => inkB z W 0 y W 1) H < sqSum (fun x => inkB z W x 0 1 H) W then 1 else 0

theorem upright_bad (a b : Int) (s : Option Addr) (k c : Nat) (z : Nat → Bool) (w : World) (hs : IsBools w s k c z) (h : bndErr (pageErr a b k) (anyInk z k) ≠ 0) :
    Calls Try.prog 89 #[.agg #[.int .i64 a, .int .i64 b, .slice s k c]] w fun e w' => e = .returned (.tuple #[.int .i64 0, .int .i64 (bndErr (pageErr a b k) (anyInk z k))]) ∧ Below w.heap.size w w' := by
  obtain ⟨v, hv⟩ : ∃ v, v = bndErr (pageErr a b k) (anyInk z k) := ⟨_, rfl⟩
  rw [← hv] at h ⊢
  have t1 : (v != 0) = true := by simpa using h
  have HV := Lib.hid hv
  have HS := Lib.hid hs
  clear hs h hv
  go_enter Try.func89, Try.ntmps89
  go_wp2_with fail
  obtain ⟨w1, hw1⟩ : ∃ w1, w1 = w.alloc (.cells #[.int .i64 a, .int .i64 b, .slice s k c] 24) := ⟨_, rfl⟩
  have B1 : Below w.heap.size w w1 := by rw [hw1]; exact new_below _ _
  rw [← hw1]
  clear hw1
  refine (bounds_any a b s k c z w1 (isBools_later HS.out B1)).mono ?_
  rintro e w2 ⟨X, Y, bw, bh, q, rfl, hb, hb2⟩
  have hq : bndErr (pageErr a b k) q = v := by
    rw [HV.out]
    rcases hb with ⟨h, _⟩ | ⟨hp, h⟩
    · unfold bndErr; rw [if_neg h, if_neg h]
    · obtain ⟨W, H, rfl, rfl, hn, hW1, _⟩ := page_nat hp
      rw [Int.toNat_natCast, Int.toNat_natCast] at h
      rw [box_any hW1 h, ← hn]
  rw [hq]
  have G := Lib.hid (below_step B1 hb2)
  clear hb hb2 hq B1
  go_wp2_with fail
  go_ret2
  exact ⟨rfl, below_alloc G.out _⟩

set_option maxHeartbeats 800000 in
theorem upright_ok (W H g o c : Nat) (z : Nat → Bool) (w : World) (hs : sizeErr W H = 0) (hi : anyInk z (W * H) = true) (hp : ∀ j, j < W * H → w.cell? ⟨g, o + j, none⟩ = some (.bool (z j))) (hB : IsBools w (some ⟨g, o, none⟩) (W * H) c z) :
    Calls Try.prog 89 #[.agg #[.int .i64 W, .int .i64 H, .slice (some ⟨g, o, none⟩) (W * H) c]] w fun e w' => e = .returned (.tuple #[.int .i64 (upI z W H), .int .i64 0]) ∧ Below w.heap.size w w' := by
  obtain ⟨⟨a1, a2, a3, a4⟩, a5, a6⟩ := sizeErr_zero hs
  have hpe : pageErr W H (W * H) = 0 := by unfold pageErr; rw [if_pos hs, if_pos (by simp [Int.natCast_mul])]
  obtain ⟨U, hU⟩ : ∃ U, U = upI z W H := ⟨_, rfl⟩
  rw [← hU]
  have HU := Lib.hid hU
  clear hU
  have HC := Lib.hid hp
  have HS := Lib.hid hs
  have HB := Lib.hid hB
  have HPE := Lib.hid hpe
  have HI := Lib.hid hi
  clear hp hs hB hpe hi a5 a6
  go_enter Try.func89, Try.ntmps89
  go_wp2_with fail
  obtain ⟨w1, hw1⟩ : ∃ w1, w1 = w.alloc (.cells #[.int .i64 W, .int .i64 H, .slice (some ⟨g, o, none⟩) (W * H) c] 24) := ⟨_, rfl⟩
  have B1 : Below w.heap.size w w1 := by rw [hw1]; exact new_below _ _
  have q1 : w1.heap[w.heap.size]? = some (.cells #[.int .i64 W, .int .i64 H, .slice (some ⟨g, o, none⟩) (W * H) c] 24 (0, 0)) := by rw [hw1]; exact heap_alloc_new _ _
  rw [← hw1]
  clear hw1
  refine (bounds_any W H (some ⟨g, o, none⟩) (W * H) c z w1 (isBools_later HB.out B1)).mono ?_
  rintro e w2 ⟨X, Y, bw, bh, q, rfl, hb, hb2⟩
  have hq : bndErr (pageErr W H (W * H)) q = 0 := by
    rcases hb with ⟨h, _⟩ | ⟨hp, h⟩
    · exact absurd HPE.out h
    · rw [Int.toNat_natCast, Int.toNat_natCast] at h
      unfold bndErr
      rw [if_pos HPE.out, box_any (by omega) h, HI.out]; rfl
  rw [hq]
  have B2 := Lib.hid (below_step B1 hb2)
  have Q2 := Lib.hid (below_block hb2 q1)
  clear hb hb2 hq q1 B1
  go_upto_region 2 with (fail)
  obtain ⟨w3, hw3⟩ : ∃ w3, w3 = w2.alloc (.cells #[.int .i64 X, .int .i64 Y, .int .i64 bw, .int .i64 bh] 29) := ⟨_, rfl⟩
  have hb3 : Below w2.heap.size w2 w3 := by rw [hw3]; exact new_below _ _
  rw [← hw3]
  clear hw3
  have B3 := Lib.hid (below_step B2.out hb3)
  obtain ⟨p0, p1, p2, _, _, _⟩ := block3 (below_block hb3 Q2.out)
  clear hb3 Q2 B2
  go_wp2_with fail
  refine (inkCounts_ok W H g o c z w3 HS.out (fun j hj => cell_later B3.out (HC.out j hj))).mono ?_
  rintro e w4 ⟨rg, rc, cg, cc, rfl, hr, hc, hb4⟩
  have HR := Lib.hid hr
  have HCC := Lib.hid hc
  have B4 := Lib.hid (below_step B3.out hb4)
  clear hr hc hb4 B3 p0 p1 p2
  obtain ⟨SR, hSR⟩ : ∃ SR, SR = sqSum (fun y => inkB z W 0 y W 1) H := ⟨_, rfl⟩
  obtain ⟨SC, hSC⟩ : ∃ SC, SC = sqSum (fun x => inkB z W x 0 1 H) W := ⟨_, rfl⟩
  have HSR := Lib.hid hSR
  have HSC := Lib.hid hSC
  by_cases hlt : SR < SC
  · have hu : U = 1 := by rw [HU.out]; unfold upI; rw [← hSR, ← hSC, if_pos hlt]
    have i1 : (SR : Int) < (SC : Int) := by omega
    subst hu
    clear HU hSR hSC hlt
    go_wp2_with (first | (go_at_call 134; ((with_reducible refine (squares_any W cg 0 cc (fun x => inkB z W x 0 1 H) w4 (by omega) (fun j => Nat.le_trans (inkB_le _ _ _ _ _ _) (by omega)) HCC.out).mono ?_); rw [← HSC.out]; rintro e w5 ⟨rfl, rfl⟩)) | (go_at_call 134; ((with_reducible refine (squares_any H rg 0 rc (fun y => inkB z W 0 y W 1) w4 (by omega) (fun j => Nat.le_trans (inkB_le _ _ _ _ _ _) (by omega)) HR.out).mono ?_); rw [← HSR.out]; rintro e w5 ⟨rfl, rfl⟩)))
    go_ret2
    exact ⟨rfl, B4.out⟩
  · have hu : U = 0 := by rw [HU.out]; unfold upI; rw [← hSR, ← hSC, if_neg hlt]
    have i1 : ¬ (SR : Int) < (SC : Int) := by omega
    subst hu
    clear HU hSR hSC hlt
    go_wp2_with (first | (go_at_call 134; ((with_reducible refine (squares_any W cg 0 cc (fun x => inkB z W x 0 1 H) w4 (by omega) (fun j => Nat.le_trans (inkB_le _ _ _ _ _ _) (by omega)) HCC.out).mono ?_); rw [← HSC.out]; rintro e w5 ⟨rfl, rfl⟩)) | (go_at_call 134; ((with_reducible refine (squares_any H rg 0 rc (fun y => inkB z W 0 y W 1) w4 (by omega) (fun j => Nat.le_trans (inkB_le _ _ _ _ _ _) (by omega)) HR.out).mono ?_); rw [← HSR.out]; rintro e w5 ⟨rfl, rfl⟩)))
    go_ret2
    exact ⟨rfl, B4.out⟩

end Go.Proofs.Ytcpgnfbjdokdcaa
