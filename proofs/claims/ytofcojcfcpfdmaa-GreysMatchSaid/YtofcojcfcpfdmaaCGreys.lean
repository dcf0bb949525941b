/-
  GreysMatch returns true for every page in grey and every low, high, radius and step, and each argument reads afterwards as it read before. No conditions.
-/
import Derived.Test.YtofcojcfcpfdmaaRows
import Derived.WalkKit
import Derived.WalkSpells
import Derived.WalkLawsBesides
import Derived.Lib.Hide
import Derived.Deep.RegionHeld3
import Derived.Shelf.Abstract
import Derived.Lib.MinMax
import Derived.Deep.QuietTactic
import Derived.BigQuiet
import Derived.Deep.CutRange
import Derived.Deep.DeepCutAuto
import Derived.Laws.EntriesVeiled
import Derived.StillTailTactics
import Derived.Deep.AppendLies
import Derived.Deep.DrawnRows
import Derived.Deep.RegionLaw
import Derived.ProofKit
import Derived.OpenShut
import Derived.ShutString
import Derived.ChangeOld
import Derived.Lib.SmallJoins
import Derived.Deep.Grids
import Derived.RegionTactic
import Derived.ChangeAlike
import Derived.BigRegion
import Derived.Shelf.Sort.Plain
import Derived.Test.YtofcojcfcpfdmaaProg
import Derived.Maps.OwnOps
import Derived.Maps.OwnSet
import Derived.DeepKeys4
import Derived.Test.YtofcojcfcpfdmaaCGreys4
namespace Go.Proofs.Ytofcojcfcpfdmaa
open Go.RowKit
set_option linter.unusedSimpArgs false
set_option linter.unusedVariables false
attribute [local go_sem ↓] Go.wp_at_zero Go.wp_at_succ

theorem heap_far3 {w : World} {b k : Nat} {x y z : Value} {o : Obj} (h : w.heap[k]? = some o) (hk : k ≠ b) : (((w.setCell ⟨b, 0, none⟩ x).setCell ⟨b, 1, none⟩ y).setCell ⟨b, 2, none⟩ z).heap[k]? = some o := by
  rw [setCell_else _ _ _ _ (by simpa using hk), setCell_else _ _ _ _ (by simpa using hk), setCell_else _ _ _ _ (by simpa using hk)]; exact h
theorem PageOkY.far3 {W H : Nat} {q : Nat → Int} {w : World} {b : Nat} {x y z : Value} {i j o1 : Int} {sl : Option Addr} {n : Nat} {t : TypeId} {o2 o3 : Value} (h : PageOkY W H q w i j sl n) (hp : 1 ≤ W * H) (hb : w.heap[b]? = some (.cells #[.int .i64 o1, o2, o3] t (0, 0))) : PageOkY W H q (((w.setCell ⟨b, 0, none⟩ x).setCell ⟨b, 1, none⟩ y).setCell ⟨b, 2, none⟩ z) i j sl n := by
  obtain ⟨h1, h2, h3, g, h4, h5⟩ := h
  refine ⟨h1, h2, h3, g, h4, fun k hk => cell_far3 ?_ (h5 k hk)⟩
  rintro rfl
  have e0 := h5 0 (by omega)
  rw [Nat.add_zero, (block3 hb).1] at e0
  cases e0
theorem ResY.far3 {f : Int} {W H : Nat} {q : Nat → Int} {w : World} {b : Nat} {x y z : Value} {i j o1 : Int} {sl : Option Addr} {n c : Nat} {t : TypeId} {o2 o3 : Value} (h : ResY f W H q w i j sl n c) (hp : 1 ≤ W * H) (hb : w.heap[b]? = some (.cells #[.int .i64 o1, o2, o3] t (0, 0))) : ResY f W H q (((w.setCell ⟨b, 0, none⟩ x).setCell ⟨b, 1, none⟩ y).setCell ⟨b, 2, none⟩ z) i j sl n c := by
  rcases h with h | ⟨h1, h2⟩
  · exact .inl h
  · exact .inr ⟨h1, h2.far3 hp hb⟩

def inB (n : Int) : Bool := decide (0 ≤ n ∧ n ≤ 255)
theorem in1_any (n : Int) (w : World) : Calls Try.prog 10 #[.int .i64 n] w fun e w' => e = .returned (.bool (inB n)) ∧ w = w' := by
  by_cases h : 0 ≤ n ∧ n ≤ 255
  · have e : inB n = true := by unfold inB; simpa using h
    rw [e]; exact in1_yes n w h
  · have e : inB n = false := by unfold inB; simpa using h
    rw [e]; exact in1_no n w h
theorem str_err (low high : Int) : strErr low high = orI (whenI (!inB low || !inB high) 3) (whenI (decide (high ≤ low)) 7) := by
  unfold strErr inB orI whenI
  by_cases h1 : 0 ≤ low ∧ low ≤ 255 <;> by_cases h2 : 0 ≤ high ∧ high ≤ 255 <;> by_cases h3 : high ≤ low <;> simp [h1, h2, h3]
theorem str_zero {low high : Int} (h : strErr low high = 0) : 0 ≤ low ∧ low < high ∧ high ≤ 255 := by
  unfold strErr at h
  split at h
  · split at h
    · simp at h
    · omega
  · simp at h
theorem rng_zero {lo hi r : Int} (h : rngErr lo hi r = 0) : lo ≤ r ∧ r ≤ hi := by
  unfold rngErr at h
  split at h
  · assumption
  · simp at h

set_option maxHeartbeats 2000000 in
set_option maxRecDepth 100000 in
theorem greys_any (a b low high radius step : Int) (s : Option Addr) (n c : Nat) (zs : List Int) (w : World) (hn : n ≤ 9223372036854775807) (hs : IsBytes w s n c zs) :
    Calls Try.prog 3 #[.agg #[.int .i64 a, .int .i64 b, .slice s n c], .int .i64 low, .int .i64 high, .int .i64 radius, .int .i64 step] w fun e w' => e = .returned (.bool true) ∧ Below w.heap.size w w' := by
  have HS := Lib.hid hs
  clear hs
  go_enter Try.func3, Try.ntmps3
  go_wp2_with ((go_at_call 7; refine (landed_any _).mono ?_; rintro e w' ⟨rfl, rfl⟩))
  obtain ⟨w1, hw1⟩ : ∃ w1, w1 = w.alloc (.cells #[.int .i64 a, .int .i64 b, .slice s n c] 24) := ⟨_, rfl⟩
  have B1 : Below w.heap.size w w1 := by rw [hw1]; exact new_below _ _
  have qb : w1.heap[w.heap.size]? = some (.cells #[.int .i64 a, .int .i64 b, .slice s n c] 24 (0, 0)) := by rw [hw1]; exact heap_alloc_new _ _
  rw [← hw1]
  clear hw1
  refine (fitGray_any a b s n c zs w1 hn (isBytes_later HS.out B1)).mono ?_
  rintro e w2 ⟨W, H, g, cc, z, rfl, ⟨hW1, hW2, hH1, hH2⟩, hzb, hz, hg, hb2⟩
  obtain ⟨j0, j1, j2, r0, r1, r2⟩ := block3 (below_block hb2 qb)
  have l1 := Lib.hid (Array.getElem?_eq_some_iff.1 qb).1
  have B2 := Lib.hid (below_step B1 hb2)
  have QB := Lib.hid (below_block hb2 qb)
  have HZ := Lib.hid hz
  have HZB := Lib.hid hzb
  have hg' := Lib.hid hg
  clear hz hzb hb2 B1 qb hg
  go_wp2_with fail
  obtain ⟨w3, hw3⟩ : ∃ w3, w3 = (((w2.setCell ⟨w.heap.size, 0, none⟩ (.int .i64 W)).setCell ⟨w.heap.size, 1, none⟩ (.int .i64 H)).setCell ⟨w.heap.size, 2, none⟩ (.slice (some ⟨g, 0, none⟩) (W * H) cc)) := ⟨_, rfl⟩
  have B3 : Below w.heap.size w w3 := by rw [hw3]; exact below_far3 B2.out (Nat.le_refl _)
  have qb : w3.heap[w.heap.size]? = some (.cells #[.int .i64 W, .int .i64 H, .slice (some ⟨g, 0, none⟩) (W * H) cc] 24 (0, 0)) := by rw [hw3]; exact far3_same QB.out
  have hz3 : ∀ j, j < W * H → w3.cell? ⟨g, 0 + j, none⟩ = some (.int .u8 (z j)) := fun j hj => by
    rw [hw3]
    exact cell_far3 (by have := l1.out; have := hg'.out; simp; omega) (HZ.out j hj)
  obtain ⟨q0, q1, q2, _, _, _⟩ := block3 qb
  rw [← hw3]
  clear hw3 j0 j1 j2 r0 r1 r2
  obtain ⟨he, hpe, hN1, hN2⟩ := small_size16 ⟨hW1, hW2⟩ ⟨hH1, hH2⟩
  have HE := Lib.hid he
  have HZ3 := Lib.hid hz3
  have HB3 := Lib.hid B3
  have QB3 := Lib.hid qb
  have HGne := Lib.hid (show g ≠ w.heap.size by have := l1.out; have := hg'.out; omega)
  clear he hpe hz3 B3 HZ QB qb HS hn B2 l1 hg'
  refine (stretch_any W H g 0 cc low high z w3 HE.out hN1 HZB.out HZ3.out).mono ?_
  rintro e w4 ⟨i1, j1, s1, n1, c1, rfl, R4, hb4⟩
  have k0 := cell_later hb4 q0
  have k1 := cell_later hb4 q1
  have k2 := cell_later hb4 q2
  have HB4 := Lib.hid hb4
  have HR4 := Lib.hid R4
  have LT := Lib.hid (show w.heap.size < w4.heap.size ∧ g < w4.heap.size ∧ w3.heap.size ≤ w4.heap.size from ⟨World.block_lt_of_cell? _ _ k0, World.block_lt_of_cell? _ _ (cell_later hb4 (HZ3.out 0 (by omega))), hb4.size⟩)
  clear hb4 R4 q0 q1 q2
  obtain ⟨f1, hf1⟩ : ∃ f1, f1 = strErr low high := ⟨_, rfl⟩
  rw [← hf1] at HR4 ⊢
  have HF1 := Lib.hid hf1
  clear hf1
  go_upto_region 6 with (fail)
  obtain ⟨w5, hw5⟩ : ∃ w5, w5 = w4.alloc (.cells #[.int .i64 i1, .int .i64 j1, .slice s1 n1 c1] 24) := ⟨_, rfl⟩
  have B5 : Below w4.heap.size w4 w5 := by rw [hw5]; exact new_below _ _
  have ab : w5.heap[w4.heap.size]? = some (.cells #[.int .i64 i1, .int .i64 j1, .slice s1 n1 c1] 24 (0, 0)) := by rw [hw5]; exact heap_alloc_new _ _
  rw [← hw5]
  clear hw5 k0 k1 k2
  have HBA := Lib.hid (below_step HB4.out B5)
  have HR5 := Lib.hid (HR4.out.later B5)
  have AB5 := Lib.hid ab
  clear B5 ab HR4 HB4
  go_cut [14] from 27 to 43 (fun t wx => t = .int .i64 f1 ∧ Hid (Below w5.heap.size w5 wx))
  case first =>
    have e1 := str_err low high
    rw [← HF1.out] at e1
    have E1 := Lib.hid e1
    clear e1
    cases hq : inB low
    all_goals
      go_wp2_with (first | ((first | go_at_call 10 | go_at_fn 10); (with_reducible refine (in1_any _ _).mono ?_); rintro e w' ⟨rfl, rfl⟩) | (go_at_call 12; refine (when_any _ _ _).mono ?_; rintro e w' ⟨rfl, rfl⟩) | (go_at_call 11; refine (first2_new _ _ _).mono ?_; rintro e w' ⟨rfl, rfl⟩))
      go_meet
      case rel => exact ⟨by rw [E1.out, hq]; first | rfl | (simp), Lib.hid (new_below _ _)⟩
  case rest =>
    obtain ⟨rfl, HB⟩ := hcut
    obtain ⟨w6, rfl⟩ : ∃ w6, w6 = wc := ⟨_, rfl⟩
    have B6 := below_step HBA.out HB.out
    have HB6 := Lib.hid B6
    have HR6 := Lib.hid (HR5.out.later HB.out)
    have AB6 := Lib.hid (below_block HB.out AB5.out)
    have QB6 := Lib.hid (below_block B6 QB3.out)
    have LT6 := Lib.hid (Array.getElem?_eq_some_iff.1 (below_block HB.out AB5.out)).1
    have Z6 := Lib.hid (fun j (hj : j < W * H) => cell_later B6 (HZ3.out j hj))
    clear B6 HBA HB HR5 AB5
    go_upto_if 45 with (fail)
    obtain ⟨w7, hw7⟩ : ∃ w7, w7 = w6.alloc (.cells #[.int .i64 0, .int .i64 0, .slice none 0 0] 24) := ⟨_, rfl⟩
    have B7 : Below w6.heap.size w6 w7 := by rw [hw7]; exact new_below _ _
    have wb : w7.heap[w6.heap.size]? = some (.cells #[.int .i64 0, .int .i64 0, .slice none 0 0] 24 (0, 0)) := by rw [hw7]; exact heap_alloc_new _ _
    rw [← hw7]
    clear hw7
    obtain ⟨q0, q1, q2, _, _, _⟩ := block3 (below_block B7 QB6.out)
    have LW := Lib.hid (Array.getElem?_eq_some_iff.1 wb).1
    have HB7 := Lib.hid B7
    have WB7 := Lib.hid wb
    obtain ⟨p0, p1, p2, o0, o1, o2⟩ := block3 wb
    clear B7 wb
    go_cut [46] from 45 to 49 (fun _ wx => ∃ (i2 j2 : Int) (sl2 : Option Addr) (n2 c2 : Nat), Hid (wx.heap[w6.heap.size]? = some (.cells #[.int .i64 i2, .int .i64 j2, .slice sl2 n2 c2] 24 (0, 0)) ∧ (f1 = 0 → PageOkY W H (fun k => strV (z k) low high) wx i2 j2 sl2 n2) ∧ Below w6.heap.size w6 wx))
    case first =>
      by_cases hf : f1 = 0
      · have t1 : (f1 == 0) = true := by simpa using hf
        obtain ⟨hl0, hlh, hh⟩ := str_zero (HF1.out ▸ hf)
        have HF := Lib.hid hf
        clear hf p0 p1 p2 o0 o1 o2
        go_wp2_with fail
        refine (stretchR_ok W H g 0 cc low high z w7 hW1 (by omega) (by omega) (by omega) hl0 hlh hh HZB.out (fun j hj => cell_later HB7.out (Z6.out j hj))).mono ?_
        rintro e w8 ⟨v, rfl, ho, hb⟩
        obtain ⟨sl2, n2, c2, rfl, _, hok⟩ := pageOkY_owns (z := fun k => strV (z k) low high) ho hN1 (fun k hk => by rw [row_back])
        obtain ⟨p0, p1, p2, o0, o1, o2⟩ := block3 (below_block hb WB7.out)
        have K := Lib.hid (show _ ∧ _ ∧ _ from ⟨below_block hb WB7.out, hok, below_step HB7.out hb⟩)
        clear ho hb hok
        go_wp2_with fail
        go_meet
        case rel => exact ⟨_, _, _, _, _, Lib.hid ⟨far3_same K.out.1, fun _ => K.out.2.1.far3 hN1 K.out.1, below_far3 K.out.2.2 (Nat.le_refl _)⟩⟩
      · have t1 : (f1 == 0) = false := by simpa using hf
        have HF := Lib.hid hf
        clear hf
        go_wp2_with fail
        go_meet
        case rel => exact ⟨_, _, _, _, _, Lib.hid ⟨WB7.out, fun h => absurd h HF.out, HB7.out⟩⟩
    case rest =>
      obtain ⟨i2, j2, sl2, n2, c2, HC⟩ := hcut
      obtain ⟨w8, rfl⟩ : ∃ w8, w8 = wc := ⟨_, rfl⟩
      clear q0 q1 q2 p0 p1 p2 o0 o1 o2
      obtain ⟨q0, q1, q2, _, _, _⟩ := block3 (below_block HC.out.2.2 AB6.out)
      obtain ⟨p0, p1, p2, _, _, _⟩ := block3 HC.out.1
      have HR8 := Lib.hid (HR6.out.later HC.out.2.2)
      have AB8 := Lib.hid (below_block HC.out.2.2 AB6.out)
      have QB8 := Lib.hid (below_block HC.out.2.2 QB6.out)
      have Z8 := Lib.hid (fun j (hj : j < W * H) => cell_later HC.out.2.2 (Z6.out j hj))
      have B8 := Lib.hid (below_step HB6.out HC.out.2.2)
      clear HB6 HB7 WB7 HR6 AB6 QB6 Z6
      go_wp2_with fail
      refine (alikeY_any f1 W H (fun k => strV (z k) low high) i1 j1 i2 j2 s1 sl2 n1 c1 n2 c2 w8 (by omega) HR8.out HC.out.2.1).mono ?_
      rintro e w9 ⟨rfl, hb9⟩
      obtain ⟨g0, g1, g2, _, _, _⟩ := block3 (below_block hb9 QB8.out)
      have AB9 := Lib.hid (below_block hb9 AB8.out)
      have WB9 := Lib.hid (below_block hb9 HC.out.1)
      have QB9 := Lib.hid (below_block hb9 QB8.out)
      have Z9 := Lib.hid (fun j (hj : j < W * H) => cell_later hb9 (Z8.out j hj))
      have B9 := Lib.hid (below_step B8.out hb9)
      clear hb9 q0 q1 q2 p0 p1 p2 HC HR8 AB8 QB8 Z8 B8
      --@@2
      go_wp2_with fail
      refine (middle_any W H g 0 cc radius z w9 HE.out hN1 HZB.out Z9.out).mono ?_
      rintro e w10 ⟨i3, j3, s3, n3, c3, rfl, R10, hb10⟩
      obtain ⟨f2, hf2⟩ : ∃ f2, f2 = rngErr 0 5 radius := ⟨_, rfl⟩
      rw [← hf2] at R10 ⊢
      have HF3 := Lib.hid hf2
      clear hf2 g0 g1 g2
      obtain ⟨p0, p1, p2, o0, o1, o2⟩ := block3 (below_block hb10 AB9.out)
      have A10 := Lib.hid (below_block hb10 AB9.out)
      have W10 := Lib.hid (below_block hb10 WB9.out)
      have Q10 := Lib.hid (below_block hb10 QB9.out)
      have Z10 := Lib.hid (fun j (hj : j < W * H) => cell_later hb10 (Z9.out j hj))
      have D10 := Lib.hid (below_step B9.out hb10)
      have R10' := Lib.hid R10
      clear hb10 R10 AB9 WB9 QB9 Z9 B9
      go_upto_region 13 with (fail)
      obtain ⟨w11, hw11⟩ : ∃ w11, w11 = (((w10.setCell ⟨w4.heap.size, 0, none⟩ (.int .i64 i3)).setCell ⟨w4.heap.size, 1, none⟩ (.int .i64 j3)).setCell ⟨w4.heap.size, 2, none⟩ (.slice s3 n3 c3)) := ⟨_, rfl⟩
      have A11 := far3_same A10.out (x' := .int .i64 i3) (y' := .int .i64 j3) (z' := .slice s3 n3 c3)
      have W11 := heap_far3 W10.out (b := w4.heap.size) (x := .int .i64 i3) (y := .int .i64 j3) (z := .slice s3 n3 c3) (by have := LT6.out; omega)
      have Q11 := heap_far3 Q10.out (b := w4.heap.size) (x := .int .i64 i3) (y := .int .i64 j3) (z := .slice s3 n3 c3) (by have := LT.out; omega)
      have Z11 := fun j (hj : j < W * H) => cell_far3 (b := w4.heap.size) (x := .int .i64 i3) (y := .int .i64 j3) (z := .slice s3 n3 c3) (a := ⟨g, 0 + j, none⟩) (by have := LT.out; simp only; omega) (Z10.out j hj)
      have R11 := R10'.out.far3 (x := .int .i64 i3) (y := .int .i64 j3) (z := .slice s3 n3 c3) hN1 A10.out
      have D11 := below_far3 D10.out (b := w4.heap.size) (x := .int .i64 i3) (y := .int .i64 j3) (z := .slice s3 n3 c3) LT.out.2.2
      rw [← hw11] at A11 W11 Q11 Z11 R11 D11 ⊢
      obtain ⟨q0, q1, q2, _, _, _⟩ := block3 Q11
      have A11 := Lib.hid A11
      have W11 := Lib.hid W11
      have Q11 := Lib.hid Q11
      have Z11 := Lib.hid Z11
      have R11 := Lib.hid R11
      have D11 := Lib.hid D11
      clear hw11 p0 p1 p2 o0 o1 o2 A10 W10 Q10 Z10 D10 R10'
      go_cut [14] from 62 to 68 (fun t wx => t = .int .i64 f2 ∧ w11 = wx)
      case first =>
        by_cases h0 : radius < 0
        · go_wp2_with ((go_at_call 12; refine (when_any _ _ _).mono ?_; rintro e w' ⟨rfl, rfl⟩))
          go_meet
          case rel => exact ⟨by rw [HF3.out, rngErr, if_neg (by omega)]; rfl, rfl⟩
        · by_cases h1 : 5 < radius
          · go_wp2_with ((go_at_call 12; refine (when_any _ _ _).mono ?_; rintro e w' ⟨rfl, rfl⟩))
            go_meet
            case rel => exact ⟨by rw [HF3.out, rngErr, if_neg (by omega)]; rfl, rfl⟩
          · go_wp2_with ((go_at_call 12; refine (when_any _ _ _).mono ?_; rintro e w' ⟨rfl, rfl⟩))
            go_meet
            case rel => exact ⟨by rw [HF3.out, rngErr, if_pos (by omega)]; rfl, rfl⟩
      case rest =>
        obtain ⟨rfl, rfl⟩ := hcut
        go_upto_if 70 with (fail)
        obtain ⟨p0, p1, p2, o0, o1, o2⟩ := block3 W11.out
        go_cut [71] from 70 to 73 (fun _ wx => ∃ (i2 j2 : Int) (sl2 : Option Addr) (n2 c2 : Nat), Hid (wx.heap[w6.heap.size]? = some (.cells #[.int .i64 i2, .int .i64 j2, .slice sl2 n2 c2] 24 (0, 0)) ∧ (f2 = 0 → PageOkY W H (fun k => midV z W H radius.toNat (k % W) (k / W)) wx i2 j2 sl2 n2) ∧ Below w6.heap.size w11 wx ∧ ResY f2 W H (fun k => midV z W H radius.toNat (k % W) (k / W)) wx i3 j3 s3 n3 c3))
        case first =>
          by_cases hf : f2 = 0
          · have t1 : (f2 == 0) = true := by simpa using hf
            obtain ⟨hl0, hlh⟩ := rng_zero (HF3.out ▸ hf)
            have ec : ((radius.toNat : Nat) : Int) = radius := by omega
            have hc := middleR_ok W H g 0 cc radius.toNat z w11 hW1 (by omega) (by omega) (by omega) (by omega) HZB.out Z11.out
            rw [ec] at hc
            have HC1 := Lib.hid hc
            clear hf hc ec p0 p1 p2 o0 o1 o2
            go_wp2_with fail
            refine HC1.out.mono ?_
            rintro e w8' ⟨v, rfl, ho, hb⟩
            obtain ⟨sl2', n2', c2', rfl, _, hok⟩ := pageOkY_owns (z := fun k => midV z W H radius.toNat (k % W) (k / W)) ho hN1 (fun k hk => by simp only [row_back])
            obtain ⟨p0, p1, p2, o0, o1, o2⟩ := block3 (below_block hb W11.out)
            have K := Lib.hid (show _ ∧ _ ∧ _ ∧ _ from ⟨below_block hb W11.out, hok, hb.mono (Nat.le_of_lt (Array.getElem?_eq_some_iff.1 W11.out).1), R11.out.later hb⟩)
            clear ho hb hok
            go_wp2_with fail
            go_meet
            case rel => exact ⟨_, _, _, _, _, Lib.hid ⟨far3_same K.out.1, fun _ => K.out.2.1.far3 hN1 K.out.1, below_far3 K.out.2.2.1 (Nat.le_refl _), K.out.2.2.2.far3 hN1 K.out.1⟩⟩
          · have t1 : (f2 == 0) = false := by simpa using hf
            have HF := Lib.hid hf
            clear hf
            go_wp2_with fail
            go_meet
            case rel => exact ⟨_, _, _, _, _, Lib.hid ⟨W11.out, fun h => absurd h HF.out, Below.refl _ _, R11.out⟩⟩
        case rest =>
          obtain ⟨i2', j2', sl2', n2', c2', HC⟩ := hcut
          obtain ⟨w12, rfl⟩ : ∃ w12, w12 = wc := ⟨_, rfl⟩
          clear q0 q1 q2 p0 p1 p2 o0 o1 o2
          have AB12 := Lib.hid ((HC.out.2.2.1.block _ LT6.out).trans A11.out)
          have QB12 := Lib.hid ((HC.out.2.2.1.block _ (Nat.lt_trans LT.out.1 LT6.out)).trans Q11.out)
          have Z12 := Lib.hid (fun j (hj : j < W * H) => (HC.out.2.2.1.cell (p := ⟨g, 0 + j, none⟩) (Nat.lt_trans LT.out.2.1 LT6.out)).trans (Z11.out j hj))
          have D12 := Lib.hid (D11.out.trans (HC.out.2.2.1.mono (Nat.le_of_lt (Nat.lt_of_le_of_lt LT.out.2.2 LT6.out))))
          obtain ⟨q0, q1, q2, _, _, _⟩ := block3 AB12.out
          obtain ⟨p0, p1, p2, _, _, _⟩ := block3 HC.out.1
          clear A11 W11 Q11 Z11 R11 D11
          go_wp2_with fail
          refine (alikeY_any f2 W H (fun k => midV z W H radius.toNat (k % W) (k / W)) i3 j3 i2' j2' s3 sl2' n3 c3 n2' c2' w12 (by omega) HC.out.2.2.2 HC.out.2.1).mono ?_
          rintro e w13 ⟨rfl, hb9⟩
          obtain ⟨g0, g1, g2, _, _, _⟩ := block3 (below_block hb9 QB12.out)
          have AB13 := Lib.hid (below_block hb9 AB12.out)
          have WB13 := Lib.hid (below_block hb9 HC.out.1)
          have QB13 := Lib.hid (below_block hb9 QB12.out)
          have Z13 := Lib.hid (fun j (hj : j < W * H) => cell_later hb9 (Z12.out j hj))
          have B13 := Lib.hid (below_step D12.out hb9)
          clear hb9 q0 q1 q2 p0 p1 p2 HC AB12 QB12 Z12 D12
          --@@3
          go_wp2_with fail
          refine (even_any W H g 0 cc step z w13 HE.out hN1 HZB.out Z13.out).mono ?_
          rintro e w14 ⟨i5, j5, s5, n5, c5, rfl, R10, hb10⟩
          obtain ⟨f3, hf3⟩ : ∃ f3, f3 = rngErr 1 4000 step := ⟨_, rfl⟩
          rw [← hf3] at R10 ⊢
          have HF5 := Lib.hid hf3
          clear hf3 g0 g1 g2
          obtain ⟨p0, p1, p2, o0, o1, o2⟩ := block3 (below_block hb10 AB13.out)
          have A10 := Lib.hid (below_block hb10 AB13.out)
          have W10 := Lib.hid (below_block hb10 WB13.out)
          have Q10 := Lib.hid (below_block hb10 QB13.out)
          have Z10 := Lib.hid (fun j (hj : j < W * H) => cell_later hb10 (Z13.out j hj))
          have D10 := Lib.hid (below_step B13.out hb10)
          have R10' := Lib.hid R10
          clear hb10 R10 AB13 WB13 QB13 Z13 B13
          go_upto_region 19 with (fail)
          obtain ⟨w15, hw15⟩ : ∃ w15, w15 = (((w14.setCell ⟨w4.heap.size, 0, none⟩ (.int .i64 i5)).setCell ⟨w4.heap.size, 1, none⟩ (.int .i64 j5)).setCell ⟨w4.heap.size, 2, none⟩ (.slice s5 n5 c5)) := ⟨_, rfl⟩
          have A11 := far3_same A10.out (x' := .int .i64 i5) (y' := .int .i64 j5) (z' := .slice s5 n5 c5)
          have W11 := heap_far3 W10.out (b := w4.heap.size) (x := .int .i64 i5) (y := .int .i64 j5) (z := .slice s5 n5 c5) (by have := LT6.out; omega)
          have Q11 := heap_far3 Q10.out (b := w4.heap.size) (x := .int .i64 i5) (y := .int .i64 j5) (z := .slice s5 n5 c5) (by have := LT.out; omega)
          have Z11 := fun j (hj : j < W * H) => cell_far3 (b := w4.heap.size) (x := .int .i64 i5) (y := .int .i64 j5) (z := .slice s5 n5 c5) (a := ⟨g, 0 + j, none⟩) (by have := LT.out; simp only; omega) (Z10.out j hj)
          have R11 := R10'.out.far3 (x := .int .i64 i5) (y := .int .i64 j5) (z := .slice s5 n5 c5) hN1 A10.out
          have D11 := below_far3 D10.out (b := w4.heap.size) (x := .int .i64 i5) (y := .int .i64 j5) (z := .slice s5 n5 c5) LT.out.2.2
          rw [← hw15] at A11 W11 Q11 Z11 R11 D11 ⊢
          obtain ⟨q0, q1, q2, _, _, _⟩ := block3 Q11
          have A11 := Lib.hid A11
          have W11 := Lib.hid W11
          have Q11 := Lib.hid Q11
          have Z11 := Lib.hid Z11
          have R11 := Lib.hid R11
          have D11 := Lib.hid D11
          clear hw15 p0 p1 p2 o0 o1 o2 A10 W10 Q10 Z10 D10 R10'
          go_cut [14] from 86 to 92 (fun t wx => t = .int .i64 f3 ∧ w15 = wx)
          case first =>
            by_cases h0 : step < 1
            · go_wp2_with ((go_at_call 12; refine (when_any _ _ _).mono ?_; rintro e w' ⟨rfl, rfl⟩))
              go_meet
              case rel => exact ⟨by rw [HF5.out, rngErr, if_neg (by omega)]; rfl, rfl⟩
            · by_cases h1 : 4000 < step
              · go_wp2_with ((go_at_call 12; refine (when_any _ _ _).mono ?_; rintro e w' ⟨rfl, rfl⟩))
                go_meet
                case rel => exact ⟨by rw [HF5.out, rngErr, if_neg (by omega)]; rfl, rfl⟩
              · go_wp2_with ((go_at_call 12; refine (when_any _ _ _).mono ?_; rintro e w' ⟨rfl, rfl⟩))
                go_meet
                case rel => exact ⟨by rw [HF5.out, rngErr, if_pos (by omega)]; rfl, rfl⟩
          case rest =>
            obtain ⟨rfl, rfl⟩ := hcut
            go_upto_if 94 with (fail)
            obtain ⟨p0, p1, p2, o0, o1, o2⟩ := block3 W11.out
            go_cut [95] from 94 to 97 (fun _ wx => ∃ (i2 j2 : Int) (sl2 : Option Addr) (n2 c2 : Nat), Hid (wx.heap[w6.heap.size]? = some (.cells #[.int .i64 i2, .int .i64 j2, .slice sl2 n2 c2] 24 (0, 0)) ∧ (f3 = 0 → PageOkY W H (fun k => evenV (z k) (lightOf z W step.toNat (k % W / step.toNat) (k / W / step.toNat) (W * H))) wx i2 j2 sl2 n2) ∧ Below w6.heap.size w15 wx ∧ ResY f3 W H (fun k => evenV (z k) (lightOf z W step.toNat (k % W / step.toNat) (k / W / step.toNat) (W * H))) wx i5 j5 s5 n5 c5))
            case first =>
              by_cases hf : f3 = 0
              · have t1 : (f3 == 0) = true := by simpa using hf
                obtain ⟨hl0, hlh⟩ := rng_zero (HF5.out ▸ hf)
                have ec : ((step.toNat : Nat) : Int) = step := by omega
                have hc := evenR_ok W H g 0 cc step.toNat z w15 hW1 (by omega) hH1 (by omega) (by omega) (by omega) (by omega) HZB.out Z11.out
                rw [ec] at hc
                have HC1 := Lib.hid hc
                clear hf hc ec p0 p1 p2 o0 o1 o2
                go_wp2_with fail
                refine HC1.out.mono ?_
                rintro e w8' ⟨v, rfl, ho, hb⟩
                obtain ⟨sl6, n6, c6, rfl, _, hok⟩ := pageOkY_owns (z := fun k => evenV (z k) (lightOf z W step.toNat (k % W / step.toNat) (k / W / step.toNat) (W * H))) ho hN1 (fun k hk => by simp only [row_back])
                obtain ⟨p0, p1, p2, o0, o1, o2⟩ := block3 (below_block hb W11.out)
                have K := Lib.hid (show _ ∧ _ ∧ _ ∧ _ from ⟨below_block hb W11.out, hok, hb.mono (Nat.le_of_lt (Array.getElem?_eq_some_iff.1 W11.out).1), R11.out.later hb⟩)
                clear ho hb hok
                go_wp2_with fail
                go_meet
                case rel => exact ⟨_, _, _, _, _, Lib.hid ⟨far3_same K.out.1, fun _ => K.out.2.1.far3 hN1 K.out.1, below_far3 K.out.2.2.1 (Nat.le_refl _), K.out.2.2.2.far3 hN1 K.out.1⟩⟩
              · have t1 : (f3 == 0) = false := by simpa using hf
                have HF := Lib.hid hf
                clear hf
                go_wp2_with fail
                go_meet
                case rel => exact ⟨_, _, _, _, _, Lib.hid ⟨W11.out, fun h => absurd h HF.out, Below.refl _ _, R11.out⟩⟩
            case rest =>
              obtain ⟨i6, j6, sl6, n6, c6, HC⟩ := hcut
              obtain ⟨w16, rfl⟩ : ∃ w16, w16 = wc := ⟨_, rfl⟩
              clear q0 q1 q2 p0 p1 p2 o0 o1 o2
              have AB16 := Lib.hid ((HC.out.2.2.1.block _ LT6.out).trans A11.out)
              have D16 := Lib.hid (D11.out.trans (HC.out.2.2.1.mono (Nat.le_of_lt (Nat.lt_of_le_of_lt LT.out.2.2 LT6.out))))
              obtain ⟨q0, q1, q2, _, _, _⟩ := block3 AB16.out
              obtain ⟨p0, p1, p2, _, _, _⟩ := block3 HC.out.1
              clear A11 W11 Q11 Z11 R11 D11
              go_wp2_with fail
              refine (alikeY_any f3 W H (fun k => evenV (z k) (lightOf z W step.toNat (k % W / step.toNat) (k / W / step.toNat) (W * H))) i5 j5 i6 j6 s5 sl6 n5 c5 n6 c6 w16 (by omega) HC.out.2.2.2 HC.out.2.1).mono ?_
              rintro e w17 ⟨rfl, hb9⟩
              have B17 := Lib.hid (below_step HB3.out (below_step D16.out hb9))
              clear hb9 q0 q1 q2 p0 p1 p2 HC AB16 D16
              go_wp2_with fail
              go_ret
              exact ⟨rfl, B17.out⟩

end Go.Proofs.Ytofcojcfcpfdmaa
namespace Go.Proofs.Ytofcojcfcpfdmaa
open Go.ChangeShapes Go.WideShapes Go.ChangeAt Go.RowKit Go.Joins
open Go.ChangeMaps (open_string shut_string)
set_option linter.unusedVariables false

set_option maxRecDepth 100000 in
/-- A page in grey by value, opened. -/
theorem open_grayN {W : World} {H : Type} {enc : TypeId × Value → H} {base : Nat} {held : Bool} {r : Reach} {b0 : Nat} {v : Value} {d : DataW H} {p : List MemPlace}
    (hv : Value.okWide Try.prog W r b0 24 v) (h : DataW.Trod enc Try.prog W base (fun _ => true) held 24 v d p) :
    ∃ a b s n c zs, v = .agg #[.int .i64 a, .int .i64 b, .slice s n c] ∧ IsBytes W s n c zs ∧ n ≤ 9223372036854775807 := by
  obtain ⟨c0, c1, c2, y0, y1, y2, m, rfl, rfl, rfl, hy0, hy1, hy2⟩ := open_agg3 Try.underlying24 (by kernel_rfl) cellsGray hv h
  obtain ⟨a, e0, rfl, wa⟩ := DataW.trod_int Try.underlying3 hy0
  obtain ⟨b, e1, rfl, wb⟩ := DataW.trod_int Try.underlying3 hy1
  simp at e0 e1
  subst e0 e1
  rcases open_ints Try.underlying22 Try.underlying5 cellsByte hy2 with ⟨hcs, _⟩ | ⟨x, l, c, zs, hcs, _, hl, hm, hz, _, hcell, hwz⟩
  · simp at hcs
    subst hcs
    exact ⟨a, b, none, 0, 0, [], rfl, .inl ⟨rfl, rfl, rfl, rfl⟩, by decide⟩
  · simp at hcs
    subst hcs
    exact ⟨a, b, some x, l, c, zs, rfl, .inr ⟨x, rfl, hl, by simpa using hz, hcell, hwz⟩, by unfold maxLen at hm; omega⟩

end Go.Proofs.Ytofcojcfcpfdmaa
namespace Go.Proofs.Ytofcojcfcpfdmaa
open Go.ChangeShapes Go.WideShapes Go.ChangeAt Go.RowKit Go.Joins
open Go.ChangeMaps (open_string shut_string)
set_option linter.unusedVariables false

set_option maxRecDepth 100000 in
theorem greys_lifted (os : Os) (started : os.Started) (H : Type) (enc : TypeId × Value → H) :
    ReturnsInHanded {} Try.checked os 3 .any (Rows.greysMatchSpec.pre6 enc Try.prog Try.f3 Rows.greysMatchRow.domain false) (Rows.greysMatchSpec.post enc Try.prog Try.f3 false true false false) := by
  refine returnsInHanded_of_change (C := Try.checked) own started (by kernel_rfl) Try.func3
    (ChangeSpec.witness6 (enc := enc) (C := Try.checked) false ⟨#[], #[.agg #[.int .i64 0, .int .i64 0, .slice none 0 0], .int .i64 0, .int .i64 0, .int .i64 0, .int .i64 0], []⟩ 8 (by kernel_rfl) (by kernel_rfl) (by kernel_rfl) (by kernel_rfl)) ?_
  intro W base args ds gs before hval0 hW hcnd _
  have hval : ∀ (j : Nat) t v, Try.f3.params[j]? = some t → args[j]? = some v → Value.okWide Try.prog W .any base t v := hval0
  have hW' := hW
  obtain ⟨p, q, hA0, hV, rfl, hfz, hnd⟩ := hW
  have hA : DataW.TrodAll enc Try.prog W 0 (fun _ => true) true Try.f3.params.toList args.toList ds p := hA0
  rw [Try.params3] at hA hval
  obtain ⟨v0, vs0, d0, ds0, p0, q0, hargs, rfl, rfl, h0, r0⟩ := trodAll_cons hA
  obtain ⟨v1, vs1, d1, ds1, p1, q1, rfl, rfl, rfl, h1, r1⟩ := trodAll_cons r0
  obtain ⟨v2, vs2, d2, ds2, p2, q2, rfl, rfl, rfl, h2, r2⟩ := trodAll_cons r1
  obtain ⟨v3, vs3, d3, ds3, p3, q3, rfl, rfl, rfl, h3, r3⟩ := trodAll_cons r2
  obtain ⟨v4, vs4, d4, ds4, p4, q4, rfl, rfl, rfl, h4, r4⟩ := trodAll_cons r3
  obtain ⟨rfl, rfl, rfl⟩ := trodAll_nil r4
  obtain rfl : args = #[v0, v1, v2, v3, v4] := by cases args; simp_all
  obtain ⟨rfl, rfl⟩ := trodVars_none hV
  have k0 := h0
  have lt0 : ∀ x ∈ p0, x.block < W.heap.size := by obtain ⟨m, hm⟩ := k0; exact DataW.trod_lt m _ _ _ hm
  obtain ⟨a0, b0, s0, n0, c0, z0, rfl, hs0, hn0⟩ := open_grayN (hval 0 24 v0 rfl rfl) h0
  obtain ⟨m1, rfl, rfl, rfl, w1⟩ := open_int Try.underlying3 (hval 1 3 v1 rfl rfl) h1
  obtain ⟨m2, rfl, rfl, rfl, w2⟩ := open_int Try.underlying3 (hval 2 3 v2 rfl rfl) h2
  obtain ⟨m3, rfl, rfl, rfl, w3⟩ := open_int Try.underlying3 (hval 3 3 v3 rfl rfl) h3
  obtain ⟨m4, rfl, rfl, rfl, w4⟩ := open_int Try.underlying3 (hval 4 3 v4 rfl rfl) h4
  clear hA0 hval0
  refine (greys_any a0 b0 m1 m2 m3 m4 s0 n0 c0 z0 W hn0 hs0).mono fun e W' ⟨he, bel⟩ => ?_
  subst he
  exact ⟨_, rfl, _, _, _, [], _, [], hW', trodAll_mk1 (shut_bool Try.underlying4 _), (trodAll_cons_mk (Below.trod laidOut (by kernel_rfl) (of_decide_eq_true (by kernel_rfl)) k0 bel lt0) (trodAll_cons_mk (shut_int Try.underlying3 w1) (trodAll_cons_mk (shut_int Try.underlying3 w2) (trodAll_cons_mk (shut_int Try.underlying3 w3) (trodAll_cons_mk (shut_int Try.underlying3 w4) trodAll_mk0))))), rfl, bel.frame _, fun h => by cases h⟩

theorem greys_over : Rows.greysMatchRow.holds Try.pinned (OpenSpec.ofChange Rows.greysMatchSpec) :=
  OpenClaim.holds_of_wide 3 Try.f3 rfl rfl rfl rfl rfl rfl rfl ⟨rfl, rfl, rfl, rfl, rfl⟩ rfl rfl rfl rfl rfl (by kernel_rfl) Try.func3 (by kernel_rfl)
    (of_decide_eq_true (by kernel_rfl)) (by unfold Func.isWrapper; first | (rw [if_pos (by decide +kernel)]; kernel_rfl) | (rw [if_neg (by decide +kernel)]; exact ⟨rfl, rfl⟩))
    (fun os started H enc _ => greys_lifted os started H enc)

theorem greys_holds : Rows.GreysMatchSaid := greys_over
end Go.Proofs.Ytofcojcfcpfdmaa
