/-
  What mix_holds leans on: contracts of the functions that it calls.
-/
import Derived.Test.YtcpgnfbjdokdcaaRows
import Derived.WalkKit
import Derived.WalkSpells
import Derived.WalkLawsBesides
import Derived.Lib.Hide
import Derived.Deep.RegionHeld3
import Derived.Shelf.Abstract
import Derived.Lib.MinMax
import Derived.Deep.QuietTactic
import Derived.BigQuiet
import Derived.Deep.CutRange
import Derived.Deep.DeepCutAuto
import Derived.Laws.EntriesVeiled
import Derived.StillTailTactics
import Derived.Deep.AppendLies
import Derived.Deep.DrawnRows
import Derived.Deep.RegionLaw
import Derived.ProofKit
import Derived.OpenShut
import Derived.ShutString
import Derived.ChangeOld
import Derived.Lib.SmallJoins
import Derived.Deep.Grids
import Derived.Test.YtcpgnfbjdokdcaaCMixes1
namespace Go.Proofs.Ytcpgnfbjdokdcaa
open Go.RowKit
set_option linter.unusedSimpArgs false
set_option linter.unusedVariables false
attribute [local go_sem ↓] Go.wp_at_zero Go.wp_at_succ

theorem noBits_zero (w : World) : Calls Try.prog 18 #[.agg #[.int .i64 0, .int .i64 0, .slice none 0 0]] w fun e w' => e = .returned (.bool true) ∧ Below w.heap.size w w' := by
  go_enter Try.func18, Try.ntmps18
  go_wp2
  go_ret
  exact ⟨rfl, new_below _ _⟩

theorem sameBits_true (W H : Int) (g1 o1 g2 o2 n c1 c2 : Nat) (z : Nat → Bool) (w : World) (hn : n ≤ 100000000)
    (h1 : ∀ j, j < n → w.cell? ⟨g1, o1 + j, none⟩ = some (.bool (z j))) (h2 : ∀ j, j < n → w.cell? ⟨g2, o2 + j, none⟩ = some (.bool (z j))) :
    Calls Try.prog 79 #[.agg #[.int .i64 W, .int .i64 H, .slice (some ⟨g1, o1, none⟩) n c1], .agg #[.int .i64 W, .int .i64 H, .slice (some ⟨g2, o2, none⟩) n c2]] w fun e w' => e = .returned (.bool true) ∧ Below w.heap.size w w' := by
  have HE := Lib.hid (equalBool_true g1 o1 g2 o2 n c1 c2 z ((w.alloc (.cells #[.int .i64 W, .int .i64 H, .slice (some ⟨g1, o1, none⟩) n c1] 24)).alloc (.cells #[.int .i64 W, .int .i64 H, .slice (some ⟨g2, o2, none⟩) n c2] 24)) hn
    (fun j hj => cell_later (below_alloc (new_below _ _) _) (h1 j hj)) (fun j hj => cell_later (below_alloc (new_below _ _) _) (h2 j hj)))
  clear h1 h2
  go_enter Try.func79, Try.ntmps79
  go_wp2_with (go_at_call 129; refine HE.out.mono ?_; rintro e w1 ⟨rfl, q, rfl⟩)
  go_ret
  exact ⟨rfl, below_drewN (below_alloc (new_below _ _) _) q⟩

theorem bitsIs_err (e1 : Int) (cl : Value) (w : World) (h : e1 ≠ 0) : Calls Try.prog 21 #[.agg #[.int .i64 0, .int .i64 0, .slice none 0 0], .int .i64 e1, .int .i64 e1, cl] w fun e w' => e = .returned (.bool true) ∧ Below w.heap.size w w' := by
  have h' : (e1 != 0) = true := by simpa using h
  clear h
  go_enter Try.func21, Try.ntmps21
  go_wp2_with (go_at_call 18; refine (noBits_zero _).mono ?_; rintro e w1 ⟨rfl, hb1⟩)
  go_ret
  exact ⟨rfl, below_step (new_below _ _) hb1⟩

/-- A page in memory: W by H, its places in cells as z tells. -/
def PageB (w : World) (v : Value) (W H : Int) (n : Nat) (z : Nat → Bool) : Prop :=
  ∃ g o c, v = .agg #[.int .i64 W, .int .i64 H, .slice (some ⟨g, o, none⟩) n c] ∧ ∀ j, j < n → w.cell? ⟨g, o + j, none⟩ = some (.bool (z j))

set_option maxHeartbeats 800000 in
set_option maxRecDepth 100000 in
theorem bitsIs_ok (W H : Int) (g1 o1 n c1 f : Nat) (capt : Array Value) (z : Nat → Bool) (w : World) (hn : n ≤ 100000000)
    (eg : ∀ (args : Array Value) (W : World), (callFunc f args).run Try.prog W = .ok (.enter f args) W)
    (h1 : ∀ j, j < n → w.cell? ⟨g1, o1 + j, none⟩ = some (.bool (z j)))
    (hc : ∀ wx, Below w.heap.size w wx → Calls Try.prog f capt wx fun e w' => ∃ v, e = .returned v ∧ PageB w' v W H n z ∧ Below wx.heap.size wx w') :
    Calls Try.prog 21 #[.agg #[.int .i64 W, .int .i64 H, .slice (some ⟨g1, o1, none⟩) n c1], .int .i64 0, .int .i64 0, .func (.func f) #[] capt] w fun e w' => e = .returned (.bool true) ∧ Below w.heap.size w w' := by
  have H1 := Lib.hid h1
  have HC := Lib.hid hc
  clear h1 hc
  go_enter Try.func21, Try.ntmps21
  go_wp2_with fail
  obtain ⟨w1, hw1⟩ : ∃ w1, w1 = w.alloc (.cells #[.int .i64 W, .int .i64 H, .slice (some ⟨g1, o1, none⟩) n c1] 24) := ⟨_, rfl⟩
  have B1 : Below w.heap.size w w1 := by rw [hw1]; exact new_below _ _
  obtain ⟨k0, k1, k2, _, _, _⟩ := block3 (w := w1) (b := w.heap.size) (x := .int .i64 W) (y := .int .i64 H) (z := .slice (some ⟨g1, o1, none⟩) n c1) (t := 24) (by rw [hw1]; exact heap_alloc_new _ _)
  rw [← hw1]
  clear hw1
  go_region_held3 (fun w' => w'.cell? ⟨w.heap.size, 0, none⟩ = some (.int .i64 W) ∧ w'.cell? ⟨w.heap.size, 1, none⟩ = some (.int .i64 H) ∧ w'.cell? ⟨w.heap.size, 2, none⟩ = some (.slice (some ⟨g1, o1, none⟩) n c1))
    (first | (go_keep; done) | (go_split_ands; exact ⟨cell_later hb5 (by assumption), cell_later hb5 (by assumption), cell_later hb5 (by assumption)⟩) | (go_split_ands; exact ⟨cell_later hb6 (by assumption), cell_later hb6 (by assumption), cell_later hb6 (by assumption)⟩))
    ((first | (go_at_fn f; refine (HC.out _ B1.drew).mono ?_; rintro e w5 ⟨v, rfl, hpg, hb5⟩; obtain ⟨g2, o2, c2, rfl, hz⟩ := hpg; have HZ := Lib.hid hz; clear hz) | (go_at_call 79; refine (sameBits_true W H g1 o1 g2 o2 n c1 c2 z w5 hn (fun j hj => cell_later (below_step B1.drew hb5) (H1.out j hj)) HZ.out).mono ?_; rintro e w6 ⟨rfl, hb6⟩)))
  go_wp2_with fail
  go_ret
  exact ⟨rfl, below_step (below_step B1.drew hb5) hb6⟩

end Go.Proofs.Ytcpgnfbjdokdcaa
namespace Go.Proofs.Ytcpgnfbjdokdcaa
open Go.RowKit
set_option linter.unusedSimpArgs false
set_option linter.unusedVariables false

set_option maxRecDepth 100000 in
theorem equalByte_true (g1 o1 g2 o2 n c1 c2 : Nat) (z : Nat → Int) (w : World) (hn : n ≤ 100000000)
    (h1 : ∀ j, j < n → w.cell? ⟨g1, o1 + j, none⟩ = some (.int .u8 (z j))) (h2 : ∀ j, j < n → w.cell? ⟨g2, o2 + j, none⟩ = some (.int .u8 (z j))) :
    Calls Try.prog 100 #[.slice (some ⟨g1, o1, none⟩) n c1, .slice (some ⟨g2, o2, none⟩) n c2] w fun e w' => e = .returned (.bool true) ∧ ∃ q, w' = w.drewN q := by
  have H1 := Lib.hid h1
  have H2 := Lib.hid h2
  clear h1 h2
  go_enter Try.func100, Try.ntmps100
  go_wp2
  go_loopw [13] (fun i wr => ∃ k q : Nat, k ≤ n ∧ i = .int .i64 k ∧ wr = w.drewN q) (fun i _ => n - (intOf i).toNat)
  case atStart => exact ⟨0, 0, Nat.zero_le _, rfl, rfl⟩
  case round =>
    obtain ⟨k, q, hk, rfl, rfl⟩ := hrel
    by_cases hlt : k < n
    · have e1 := H1.out k hlt
      have e2 := H2.out k hlt
      generalize z k = x at e1 e2
      have i1 : (k : Int) < (n : Int) := by omega
      have i0 : (0 : Int) ≤ (k : Int) := by omega
      go_wp2
      go_quiet (fail)
      go_wp2
      go_roundw
      case rel => exact ⟨k + 1, _, by omega, by go_num, rfl⟩
      case measure => simp [intOf]; omega
    · go_wp2
      go_ret
      exact ⟨rfl, q, rfl⟩

end Go.Proofs.Ytcpgnfbjdokdcaa
namespace Go.Proofs.Ytcpgnfbjdokdcaa
open Go.RowKit
set_option linter.unusedSimpArgs false
set_option linter.unusedVariables false
attribute [local go_sem ↓] Go.wp_at_zero Go.wp_at_succ

theorem noGray_zero (w : World) : Calls Try.prog 28 #[.agg #[.int .i64 0, .int .i64 0, .slice none 0 0]] w fun e w' => e = .returned (.bool true) ∧ Below w.heap.size w w' := by
  go_enter Try.func28, Try.ntmps28
  go_wp2
  go_ret
  exact ⟨rfl, new_below _ _⟩

theorem sameGray_true (W H : Int) (g1 o1 g2 o2 n c1 c2 : Nat) (z : Nat → Int) (w : World) (hn : n ≤ 100000000)
    (h1 : ∀ j, j < n → w.cell? ⟨g1, o1 + j, none⟩ = some (.int .u8 (z j))) (h2 : ∀ j, j < n → w.cell? ⟨g2, o2 + j, none⟩ = some (.int .u8 (z j))) :
    Calls Try.prog 29 #[.agg #[.int .i64 W, .int .i64 H, .slice (some ⟨g1, o1, none⟩) n c1], .agg #[.int .i64 W, .int .i64 H, .slice (some ⟨g2, o2, none⟩) n c2]] w fun e w' => e = .returned (.bool true) ∧ Below w.heap.size w w' := by
  have HE := Lib.hid (equalByte_true g1 o1 g2 o2 n c1 c2 z ((w.alloc (.cells #[.int .i64 W, .int .i64 H, .slice (some ⟨g1, o1, none⟩) n c1] 27)).alloc (.cells #[.int .i64 W, .int .i64 H, .slice (some ⟨g2, o2, none⟩) n c2] 27)) hn
    (fun j hj => cell_later (below_alloc (new_below _ _) _) (h1 j hj)) (fun j hj => cell_later (below_alloc (new_below _ _) _) (h2 j hj)))
  clear h1 h2
  go_enter Try.func29, Try.ntmps29
  go_wp2_with (go_at_call 100; refine HE.out.mono ?_; rintro e w1 ⟨rfl, q, rfl⟩)
  go_ret
  exact ⟨rfl, below_drewN (below_alloc (new_below _ _) _) q⟩

end Go.Proofs.Ytcpgnfbjdokdcaa
namespace Go.Proofs.Ytcpgnfbjdokdcaa
open Go.RowKit
set_option linter.unusedSimpArgs false
set_option linter.unusedVariables false
attribute [local go_sem ↓] Go.wp_at_zero Go.wp_at_succ

/-- What holds while Made runs: n values are there; they lie in a row of their own, which the page's variable leads to. -/
def MadeRelY (w h : Nat) (f : Nat → Nat → Int) (W0 : World) (n : Nat) (wr : World) (v : Value) : Prop :=
  wr.ownsRow (W0.heap.size + 2) 5 1 v n ((places w f n).map (Value.int .u8)) ∧ wr.heap[W0.heap.size]? = some (.cells #[.int .i64 0, .int .i64 0, .slice none 0 0] 27 (0, 0)) ∧
  wr.heap[W0.heap.size + 1]? = some (.cells #[.int .i64 w, .int .i64 h, v] 27 (0, 0)) ∧ Below W0.heap.size W0 wr

theorem MadeRelY.later {w h : Nat} {f : Nat → Nat → Int} {W0 wr w' : World} {n : Nat} {v : Value} (hr : MadeRelY w h f W0 n wr v) (hb : Below wr.heap.size wr w') : MadeRelY w h f W0 n w' v :=
  ⟨below_owns hr.1 hb, below_block hb hr.2.1, below_block hb hr.2.2.1, below_step hr.2.2.2 hb⟩

theorem MadeRelY.stored {w h : Nat} {f : Nat → Nat → Int} {W0 wr w1 : World} {v v' : Value} {x y : Nat} (hr : MadeRelY w h f W0 (y * w + x) wr v) (hx : x < w) (q : Int) (hq : q = f x y)
    (hown : w1.ownsRow (W0.heap.size + 2) 5 1 v' (y * w + x + 1) ((places w f (y * w + x)).map (Value.int .u8) ++ [Value.int .u8 q])) (hg : wr.grownBy w1 v.ownBlock) :
    MadeRelY w h f W0 (y * w + x + 1) (w1.setCell ⟨W0.heap.size + 1, 2, none⟩ v') v' := by
  obtain ⟨h1, h2, h3, h4⟩ := hr
  have hrow : ∀ k, v.ownBlock = some k → W0.heap.size + 2 ≤ k := fun k hk => (h1.lt k hk).1
  have n0 : some W0.heap.size ≠ v.ownBlock := fun e => by have := hrow _ e.symm; omega
  have n1 : some (W0.heap.size + 1) ≠ v.ownBlock := fun e => by have := hrow _ e.symm; omega
  refine ⟨?_, ?_, ?_, ?_⟩
  · rw [places_succ w f x y hx, List.map_append, ← hq]
    exact ownsRow_setCell_below hown (by simp) _
  · rw [Below.heap_setCell _ _ _ _ (by simp)]
    exact grown_block hg h2 n0
  · exact heap_setCell_same w1 (W0.heap.size + 1) 2 #[.int .i64 w, .int .i64 h, v] 27 v' (grown_block hg h3 n1)
  · exact (h4.grown hg h4.size (fun k hk => by have := hrow k hk; omega)).setCell (by simp) _

set_option maxHeartbeats 2000000 in
set_option maxRecDepth 100000 in
theorem madeGray_any (w h g : Nat) (capt : Array Value) (f : Nat → Nat → Int) (W0 : World) (hw : 1 ≤ w) (hw' : w ≤ 10000000) (hh : h ≤ 10000000) (hN : w * h ≤ 10000000)
    (eg : ∀ (args : Array Value) (W : World), (callFunc g args).run Try.prog W = .ok (.enter g args) W)
    (hc : ∀ (x y : Nat) (W : World), x < w → y < h → Below W0.heap.size W0 W → Calls Try.prog g (#[.int .i64 x, .int .i64 y] ++ capt) W fun e W' => e = .returned (.int .u8 (f x y)) ∧ Below W.heap.size W W') :
    Calls Try.prog 30 #[.int .i64 w, .int .i64 h, .func (.func g) #[] capt] W0 fun e W' =>
      ∃ v, e = .returned (.agg #[.int .i64 w, .int .i64 h, v]) ∧ W'.ownsRow W0.heap.size 5 1 v (w * h) ((places w f (w * h)).map (Value.int .u8)) ∧ Below W0.heap.size W0 W' := by
  obtain ⟨i0, hi, hz0, hz1, hz2⟩ := info_parts info_byte
  have HC := Lib.hid hc
  clear hc
  go_enter Try.func30, Try.ntmps30
  go_wp2_with fail
  obtain ⟨w1, hw1⟩ : ∃ w1, w1 = (W0.alloc (.cells #[.int .i64 0, .int .i64 0, .slice none 0 0] 27)).alloc (.cells #[.int .i64 w, .int .i64 h, .slice none 0 0] 27) := ⟨_, rfl⟩
  have B1 : Below W0.heap.size W0 w1 := by rw [hw1]; exact below_alloc (new_below _ _) _
  have b0 : w1.heap[W0.heap.size]? = some (.cells #[.int .i64 0, .int .i64 0, .slice none 0 0] 27 (0, 0)) := by
    rw [hw1, Below.heap_alloc _ _ _ (by simp)]; exact heap_alloc_new _ _
  have b1 : w1.heap[W0.heap.size + 1]? = some (.cells #[.int .i64 w, .int .i64 h, .slice none 0 0] 27 (0, 0)) := by
    rw [hw1]; simpa using heap_alloc_new (W0.alloc (.cells #[.int .i64 0, .int .i64 0, .slice none 0 0] 27)) (.cells #[.int .i64 w, .int .i64 h, .slice none 0 0] 27)
  rw [← hw1]
  clear hw1
  have R1 : MadeRelY w h f W0 0 w1 (.slice none 0 0) := ⟨by simpa [places] using World.ownsRow_nil _ _ _ _, b0, b1, B1⟩
  clear b0 b1 B1
  go_loopw [14] (fun i wr => ∃ (y : Nat) (v : Value), y ≤ h ∧ i = .int .i64 y ∧ MadeRelY w h f W0 (y * w) wr v) (fun i _ => h - (intOf i).toNat)
  case atStart => exact ⟨0, _, Nat.zero_le _, rfl, by simpa using R1⟩
  case round =>
    obtain ⟨y, v0, hy, rfl, hrel0⟩ := hrel
    clear R1
    by_cases hlt : y < h
    · obtain ⟨wo, rfl⟩ : ∃ wo : World, wo = wr := ⟨_, rfl⟩
      go_wp2_with fail
      go_loopw [18] (fun i wr => ∃ (x : Nat) (v : Value), x ≤ w ∧ i = .int .i64 x ∧ MadeRelY w h f W0 (y * w + x) wr v) (fun i _ => w - (intOf i).toNat)
      case atStart => exact ⟨0, v0, Nat.zero_le _, rfl, by simpa using hrel0⟩
      case round =>
        obtain ⟨x, v, hx, rfl, hrelr⟩ := hrel
        clear hrel0
        by_cases hltx : x < w
        · have HC' := HC.out x y
          have hfit := row_fits hlt (show x + 1 ≤ w by omega)
          obtain ⟨k0, k1, k2, r0, r1, r2⟩ := block3 hrelr.2.2.1
          have hl := World.block_lt_of_cell? _ _ k2
          simp only at hl
          have HR := Lib.hid hrelr
          obtain ⟨q, hq⟩ : ∃ q, q = f x y := ⟨_, rfl⟩
          rw [← hq] at HC'
          have HQ := Lib.hid hq
          have hnb : some (W0.heap.size + 1) ≠ v.ownBlock := fun e => by have := (hrelr.1.lt _ e.symm).1; omega
          clear hq hrelr k0 k1 r0 r1
          go_wp2_with fail
          go_region_law ((first | (go_simp; go_at_fn g; refine (HC' _ hltx hlt (HR.out.2.2.2.drew)).mono ?_; rintro e w' ⟨rfl, hb'⟩; have hrel' := HR.out.later (below_step (Below.refl _ _).drew hb'); have kk := cell_later (below_step (Below.refl _ _).drew hb') k2; have hl' := Nat.lt_of_lt_of_le hl hb'.size) | (refine step_append_lies _ (by rfl) _ _ _ (by rfl) (W0.heap.size + 2) 5 i0 (.int .u8 0) 1 1 Try.underlying25 hi hz0 hz1 hz2 rfl (by omega) v (y * w + x) _ (by rfl) (hrel'.1.alloc _) ⟨w'.heap.size, 0, none⟩ 1 1 [.int .u8 q] (by rfl) (by rfl) (cell_one_new _ _ _) (by simp [Value.oneCell']) (by omega) (by unfold maxLen; omega) (by omega) (by have := hrel'.2.2.2.size; have := World.block_lt_of_cell? _ _ (block3 hrel'.2.2.1).1; simp at this; simp; omega) (w'.heap.size + 1) (by simp) ?_; intro gg cap w5 hown5 hgrow hat hlt5; have hb5 := block3 (grown_block hgrow ((Below.heap_alloc _ _ _ (Array.getElem?_eq_some_iff.1 hrel'.2.2.1).1).trans hrel'.2.2.1) hnb); have hfz5 := hb5.2.2.2.2.2; have hcl5 := hb5.2.2.1; clear hb5)))
          all_goals
            have RR := (hrel'.later (new_below w' _)).stored hltx q HQ.out hown5 hgrow
            clear hown5 hgrow hat hlt5 hfz5 hcl5 hrel' kk hl' hb' HC' k2 hl hnb
            go_wp2_with fail
            go_roundw
            case rel => exact ⟨x + 1, _, by omega, by go_num, RR⟩
            case measure => simp [intOf]; omega
        · have hxe := Lib.hid (show x = w by omega)
          go_wp2_with fail
          go_roundw
          case rel => exact ⟨y + 1, v, by omega, by go_num, by rw [show (y + 1) * w = y * w + x by rw [hxe.out, Nat.add_mul, Nat.one_mul]]; exact hrelr⟩
          case measure => simp [intOf]; omega
    · have hye := Lib.hid (show y = h by omega)
      obtain ⟨va, vn, vc, rfl⟩ : ∃ a n c, v0 = .slice a n c := by
        rcases hrel0.1.2 with ⟨h0, _⟩ | ⟨g, cap, cur, h0, _⟩
        · exact ⟨_, _, _, h0⟩
        · exact ⟨_, _, _, h0⟩
      have HR := Lib.hid hrel0
      obtain ⟨k0, k1, k2, _, _, _⟩ := block3 hrel0.2.2.1
      obtain ⟨j0, j1, j2, r0, r1, r2⟩ := block3 hrel0.2.1
      clear hrel0
      go_wp2_with fail
      refine bodyPost_ret (v := .agg #[.int .i64 w, .int .i64 h, .slice va vn vc]) (by simp [results, Try.results30, go_sem, j0, j1, j2]) rfl ⟨_, rfl, ?_, ?_⟩
      · have h1 := HR.out.1
        rw [hye.out, Nat.mul_comm h w] at h1
        exact owns_base (ownsRow_setCell_below (ownsRow_setCell_below (ownsRow_setCell_below h1 (by simp) _) (by simp) _) (by simp) _) (by omega)
      · exact ((HR.out.2.2.2.setCell (by simp) _).setCell (by simp) _).setCell (by simp) _

end Go.Proofs.Ytcpgnfbjdokdcaa
namespace Go.Proofs.Ytcpgnfbjdokdcaa
open Go.ChangeShapes Go.WideShapes Go.ChangeAt Go.RowKit Go.Joins
open Go.ChangeMaps (open_string shut_string)
set_option linter.unusedVariables false

theorem own : ownKnob Try.prog.godebug = none := by kernel_rfl
theorem laidOut : laidOutB Try.prog = true := by kernel_rfl
theorem cellsGray : Try.prog.cellsOf 27 = 3 := by kernel_rfl
theorem cellsBits : Try.prog.cellsOf 24 = 3 := by kernel_rfl
theorem cellsByte : Try.prog.cellsOf 5 = 1 := by kernel_rfl

/-- A slice of bytes that came in: nil; or its cells hold the numbers zs, each a byte. -/
def IsBytes (w : World) (a : Option Addr) (len cap : Nat) (zs : List Int) : Prop :=
  (a = none ∧ len = 0 ∧ cap = 0 ∧ zs = []) ∨
  ∃ x, a = some x ∧ len ≤ cap ∧ zs.length = cap ∧ (∀ i, i < zs.length → w.cell? (x.add i) = some (.int .u8 (zs.getD i 0))) ∧ ∀ n ∈ zs, (Lit.int .u8 n).wf = true

theorem isBytes_cells {w : World} {a : Option Addr} {len cap : Nat} {zs : List Int} (h : IsBytes w a len cap zs) (hl : 1 ≤ len) :
    ∃ pb po, a = some ⟨pb, po, none⟩ ∧ (∀ j, j < len → w.cell? ⟨pb, po + j, none⟩ = some (.int .u8 (zs.getD j 0))) ∧ ∀ j, 0 ≤ zs.getD j 0 ∧ zs.getD j 0 ≤ 255 := by
  rcases h with ⟨_, h0, _⟩ | ⟨⟨pb, po, spot⟩, rfl, hlc, hz, hcell, hwf⟩
  · omega
  · have hspot : spot = none := by simpa [Addr.add] using World.cell?_spot (hcell 0 (by omega))
    subst hspot
    refine ⟨pb, po, rfl, fun j hj => by have := hcell j (by omega); rwa [Addr.add_lit] at this, fun j => ?_⟩
    by_cases hj : j < zs.length
    · have hm : zs.getD j 0 ∈ zs := by rw [List.getD_eq_getElem?_getD, List.getElem?_eq_getElem hj]; exact List.getElem_mem hj
      have hmin : IntKind.u8.min = 0 := rfl
      have hmax : IntKind.u8.max = 255 := rfl
      have := hwf _ hm
      simp only [Lit.wf, Bool.and_eq_true, decide_eq_true_eq] at this
      omega
    · rw [List.getD_eq_getElem?_getD, List.getElem?_eq_none (by omega)]
      simp

set_option maxRecDepth 100000 in
/-- A page in grey by value, opened. -/
theorem open_gray {W : World} {H : Type} {enc : TypeId × Value → H} {base : Nat} {held : Bool} {r : Reach} {b0 : Nat} {v : Value} {d : DataW H} {p : List MemPlace}
    (hv : Value.okWide Try.prog W r b0 27 v) (h : DataW.Trod enc Try.prog W base (fun _ => true) held 27 v d p) :
    ∃ a b s n c zs, v = .agg #[.int .i64 a, .int .i64 b, .slice s n c] ∧ IsBytes W s n c zs := by
  obtain ⟨c0, c1, c2, y0, y1, y2, m, rfl, rfl, rfl, hy0, hy1, hy2⟩ := open_agg3 Try.underlying27 (by kernel_rfl) cellsGray hv h
  obtain ⟨a, e0, rfl, wa⟩ := DataW.trod_int Try.underlying3 hy0
  obtain ⟨b, e1, rfl, wb⟩ := DataW.trod_int Try.underlying3 hy1
  simp at e0 e1
  subst e0 e1
  rcases open_ints Try.underlying25 Try.underlying5 cellsByte hy2 with ⟨hcs, _⟩ | ⟨x, l, c, zs, hcs, _, hl, hm, hz, _, hcell, hwz⟩
  · simp at hcs
    subst hcs
    exact ⟨a, b, none, 0, 0, [], rfl, .inl ⟨rfl, rfl, rfl, rfl⟩⟩
  · simp at hcs
    subst hcs
    exact ⟨a, b, some x, l, c, zs, rfl, .inr ⟨x, rfl, hl, by simpa using hz, hcell, hwz⟩⟩

theorem cellsBool : Try.prog.cellsOf 4 = 1 := by kernel_rfl

/-- A slice of bools that came in: nil; or its cells hold what B tells. -/
def IsBools (w : World) (a : Option Addr) (len cap : Nat) (B : Nat → Bool) : Prop :=
  (a = none ∧ len = 0 ∧ cap = 0) ∨ ∃ x, a = some x ∧ ∀ i, i < len → w.cell? (x.add i) = some (.bool (B i))

theorem isBools_cells {w : World} {a : Option Addr} {len cap : Nat} {B : Nat → Bool} (h : IsBools w a len cap B) (hl : 1 ≤ len) :
    ∃ pb po, a = some ⟨pb, po, none⟩ ∧ ∀ j, j < len → w.cell? ⟨pb, po + j, none⟩ = some (.bool (B j)) := by
  rcases h with ⟨_, h0, _⟩ | ⟨⟨pb, po, spot⟩, rfl, hcell⟩
  · omega
  · have hspot : spot = none := by simpa [Addr.add] using World.cell?_spot (hcell 0 (by omega))
    subst hspot
    exact ⟨pb, po, rfl, fun j hj => by have := hcell j hj; rwa [Addr.add_lit] at this⟩

theorem isBools_later {w w' : World} {a : Option Addr} {len cap : Nat} {B : Nat → Bool} (h : IsBools w a len cap B) (hb : Below w.heap.size w w') : IsBools w' a len cap B := by
  rcases h with h | ⟨x, h1, h2⟩
  · exact .inl h
  · exact .inr ⟨x, h1, fun i hi => (hb.cell (World.block_lt_of_cell? _ _ (h2 i hi))).trans (h2 i hi)⟩

theorem isBytes_later {w w' : World} {a : Option Addr} {len cap : Nat} {zs : List Int} (h : IsBytes w a len cap zs) (hb : Below w.heap.size w w') : IsBytes w' a len cap zs := by
  rcases h with h | ⟨x, h1, h2, h3, h4, h5⟩
  · exact .inl h
  · exact .inr ⟨x, h1, h2, h3, fun i hi => (hb.cell (World.block_lt_of_cell? _ _ (h4 i hi))).trans (h4 i hi), h5⟩

set_option maxRecDepth 100000 in
/-- A page in black and white by value, opened. -/
theorem open_bits {W : World} {H : Type} {enc : TypeId × Value → H} {base : Nat} {held : Bool} {r : Reach} {b0 : Nat} {v : Value} {d : DataW H} {p : List MemPlace}
    (hv : Value.okWide Try.prog W r b0 24 v) (h : DataW.Trod enc Try.prog W base (fun _ => true) held 24 v d p) :
    ∃ a b s n c B, v = .agg #[.int .i64 a, .int .i64 b, .slice s n c] ∧ IsBools W s n c B := by
  obtain ⟨c0, c1, c2, y0, y1, y2, m, rfl, rfl, rfl, hy0, hy1, hy2⟩ := open_agg3 Try.underlying24 (by kernel_rfl) cellsBits hv h
  obtain ⟨a, e0, rfl, wa⟩ := DataW.trod_int Try.underlying3 hy0
  obtain ⟨b, e1, rfl, wb⟩ := DataW.trod_int Try.underlying3 hy1
  simp at e0 e1
  subst e0 e1
  rcases Go.Deep.open_bools Try.underlying22 Try.underlying4 cellsBool hy2 with ⟨hcs, _⟩ | ⟨x, l, c, B, hcs, _, hl, hm, _, hcell⟩
  · simp at hcs
    subst hcs
    exact ⟨a, b, none, 0, 0, fun _ => false, rfl, .inl ⟨rfl, rfl, rfl⟩⟩
  · simp at hcs
    subst hcs
    exact ⟨a, b, some x, l, c, B, rfl, .inr ⟨x, rfl, fun i hi => hcell i (by omega)⟩⟩

end Go.Proofs.Ytcpgnfbjdokdcaa
namespace Go.Proofs.Ytcpgnfbjdokdcaa
open Go.RowKit
set_option linter.unusedSimpArgs false
set_option linter.unusedVariables false

instance (X Y bw bh W H : Int) : Decidable (InP X Y bw bh W H) := by unfold InP; infer_instance

/-- The error of a cut: of the page, else of the box. -/
def cutErr (a b : Int) (n : Nat) (X Y bw bh : Int) : Int := if pageErr a b n = 0 then (if InP X Y bw bh a b then 0 else 13) else pageErr a b n

theorem page_parts {a b : Int} {n : Nat} (h : pageErr a b n = 0) : sizeErr a b = 0 ∧ (n : Int) = a * b := by
  unfold pageErr at h
  by_cases h0 : sizeErr a b = 0
  · rw [if_pos h0] at h
    by_cases h1 : (n : Int) = a * b
    · exact ⟨h0, h1⟩
    · rw [if_neg h1] at h; simp at h
  · rw [if_neg h0] at h; exact absurd h h0

/-- The numbers of a right page. -/
theorem page_nat {a b : Int} {n : Nat} (h : pageErr a b n = 0) : ∃ W H : Nat, a = W ∧ b = H ∧ n = W * H ∧ 1 ≤ W ∧ W ≤ 4000 ∧ 1 ≤ H ∧ H ≤ 4000 ∧ n ≤ 1048576 ∧ sizeErr (W : Int) (H : Int) = 0 := by
  obtain ⟨he, hn⟩ := page_parts h
  obtain ⟨⟨a1, a2, a3, a4⟩, z0, z1⟩ := sizeErr_zero he
  obtain ⟨W, rfl⟩ := Int.eq_ofNat_of_zero_le (by omega : 0 ≤ a)
  obtain ⟨H, rfl⟩ := Int.eq_ofNat_of_zero_le (by omega : 0 ≤ b)
  refine ⟨W, H, rfl, rfl, ?_, by omega, by omega, by omega, by omega, by omega, he⟩
  have : (n : Int) = ((W * H : Nat) : Int) := by rw [hn, Int.natCast_mul]
  omega

theorem owns_pageB {w : World} {base : Nat} {v : Value} {N bw : Nat} {f : Nat → Nat → Bool} (h : w.ownsRow base 4 1 v N ((places bw f N).map Value.bool)) (hN : 1 ≤ N) :
    ∃ g c, v = .slice (some ⟨g, 0, none⟩) N c ∧ base ≤ g ∧ ∀ j, j < N → w.cell? ⟨g, 0 + j, none⟩ = some (.bool (f (j % bw) (j / bw))) := by
  rcases h.2 with ⟨_, h0⟩ | ⟨g, c, cur, rfl, hg, _⟩
  · omega
  · exact ⟨g, c, rfl, hg, fun j hj => by rw [Nat.zero_add, h.cellAt j (by omega)]; simp [places, List.getElem?_range hj]⟩

theorem owns_pageY {w : World} {base : Nat} {v : Value} {N bw : Nat} {f : Nat → Nat → Int} (h : w.ownsRow base 5 1 v N ((places bw f N).map (Value.int .u8))) (hN : 1 ≤ N) :
    ∃ g c, v = .slice (some ⟨g, 0, none⟩) N c ∧ base ≤ g ∧ ∀ j, j < N → w.cell? ⟨g, 0 + j, none⟩ = some (.int .u8 (f (j % bw) (j / bw))) := by
  rcases h.2 with ⟨_, h0⟩ | ⟨g, c, cur, rfl, hg, _⟩
  · omega
  · exact ⟨g, c, rfl, hg, fun j hj => by rw [Nat.zero_add, h.cellAt j (by omega)]; simp [places, List.getElem?_range hj]⟩

/-- What a cut is, in memory: nothing with an error; else the places of the box. -/
def CutIs (a b : Int) (n : Nat) (X Y bw bh : Int) (z : Nat → Bool) (B : Nat) (w : World) (i j : Int) (sl : Option Addr) (n' c' : Nat) : Prop :=
  (cutErr a b n X Y bw bh ≠ 0 ∧ i = 0 ∧ j = 0 ∧ sl = none ∧ n' = 0 ∧ c' = 0) ∨
  (cutErr a b n X Y bw bh = 0 ∧ i = bw ∧ j = bh ∧ n' = bw.toNat * bh.toNat ∧ ∃ g, B ≤ g ∧ sl = some ⟨g, 0, none⟩ ∧ ∀ k, k < n' → w.cell? ⟨g, 0 + k, none⟩ = some (.bool (z ((Y.toNat + k / bw.toNat) * a.toNat + X.toNat + k % bw.toNat))))

theorem CutIs.later {a b : Int} {n : Nat} {X Y bw bh : Int} {z : Nat → Bool} {B : Nat} {w w' : World} {i j : Int} {sl : Option Addr} {n' c' : Nat} (h : CutIs a b n X Y bw bh z B w i j sl n' c') (hb : Below w.heap.size w w') : CutIs a b n X Y bw bh z B w' i j sl n' c' := by
  rcases h with h | ⟨h1, h2, h3, h4, g, h5, h6, h7⟩
  · exact .inl h
  · exact .inr ⟨h1, h2, h3, h4, g, h5, h6, fun k hk => cell_later hb (h7 k hk)⟩
end Go.Proofs.Ytcpgnfbjdokdcaa
namespace Go.Proofs.Ytcpgnfbjdokdcaa
open Go.RowKit
set_option linter.unusedSimpArgs false
set_option linter.unusedVariables false

theorem halve_badPage (a b : Int) (p : Option Addr) (n c : Nat) (w : World) (h : pageErr a b n ≠ 0) :
    Calls Try.prog 50 #[.agg #[.int .i64 a, .int .i64 b, .slice p n c]] w fun e w' => e = .returned (.tuple #[.agg #[.int .i64 0, .int .i64 0, .slice none 0 0], .int .i64 (pageErr a b n)]) ∧ Below w.heap.size w w' := by
  have h' : (pageErr a b n != 0) = true := by simpa using h
  clear h
  go_enter Try.func50, Try.ntmps50
  go_wp2_with ((go_at_call 14; refine (checkGray_any _ _ _ _ _ _).mono ?_; rintro e w' ⟨rfl, rfl⟩))
  refine bodyPost_ret (v := .tuple #[.agg #[.int .i64 0, .int .i64 0, .slice none 0 0], .int .i64 (pageErr a b n)]) (by simp [results, Try.results50, go_sem]) rfl ⟨rfl, below_alloc (below_alloc (new_below _ _) _) _⟩

theorem halve1_any (W H x y gb pb po c : Nat) (P : Nat → Int) (w : World) (hW : W ≤ 4000) (hH : H ≤ 4000) (hN : W * H ≤ 1048576) (hx : 2 * x < W) (hy : 2 * y < H) (hP : ∀ j, 0 ≤ P j ∧ P j ≤ 255)
    (q0 : w.cell? ⟨gb, 0, none⟩ = some (.int .i64 W)) (q1 : w.cell? ⟨gb, 1, none⟩ = some (.int .i64 H)) (q2 : w.cell? ⟨gb, 2, none⟩ = some (.slice (some ⟨pb, po, none⟩) (W * H) c))
    (hp : ∀ j, j < W * H → w.cell? ⟨pb, po + j, none⟩ = some (.int .u8 (P j))) :
    Calls Try.prog 110 #[.int .i64 x, .int .i64 y, .pointer (some ⟨gb, 0, none⟩)] w fun e w' => e = .returned (.int .u8 (mean4 P W H x y)) ∧ Below w.heap.size w w' := by
  have HM := Lib.hid (meanOfFour_any W H x y pb po c P w hW hH hN hx hy hP hp)
  clear hp hP
  go_enter Try.func110, Try.ntmps110
  go_wp2_with (go_at_call 111; refine HM.out.mono ?_; rintro e w1 ⟨rfl, hb1⟩)
  go_ret
  exact ⟨rfl, hb1⟩

set_option maxHeartbeats 400000 in
set_option maxRecDepth 100000 in
theorem halve_ok (W H w2 h2 pb po c : Nat) (P : Nat → Int) (w : World) (he : sizeErr W H = 0) (hw2 : w2 = (W + 1) / 2) (hh2 : h2 = (H + 1) / 2) (hP : ∀ j, 0 ≤ P j ∧ P j ≤ 255)
    (hp : ∀ j, j < W * H → w.cell? ⟨pb, po + j, none⟩ = some (.int .u8 (P j))) :
    Calls Try.prog 50 #[.agg #[.int .i64 W, .int .i64 H, .slice (some ⟨pb, po, none⟩) (W * H) c]] w fun e w' =>
      ∃ v, e = .returned (.tuple #[.agg #[.int .i64 w2, .int .i64 h2, v], .int .i64 0]) ∧ w'.ownsRow w.heap.size 5 1 v (w2 * h2) ((places w2 (mean4 P W H) (w2 * h2)).map (Value.int .u8)) ∧ Below w.heap.size w w' := by
  have hmf : ∀ (fn : Fn) (first cap : Array Value) (w : World), (Instr.makeFunc fn first cap).run Try.prog w = .ok (.func fn first cap) w := fun _ _ _ _ => rfl
  obtain ⟨⟨a1, a2, a3, a4⟩, z0, z1⟩ := sizeErr_zero he
  have hN : W * H ≤ 1048576 := by rw [← Int.natCast_mul] at z1; omega
  have hpe : pageErr W H (W * H) = 0 := by unfold pageErr; rw [if_pos he, if_pos (by simp [Int.natCast_mul])]
  have d1 : ((W : Int) + 1) / 2 = (w2 : Int) := by omega
  have d2 : ((H : Int) + 1) / 2 = (h2 : Int) := by omega
  have b1 : 1 ≤ w2 ∧ w2 ≤ W ∧ 2 * w2 ≤ W + 1 := by omega
  have b2 : 1 ≤ h2 ∧ h2 ≤ H ∧ 2 * h2 ≤ H + 1 := by omega
  have HP := Lib.hid hP
  have HC := Lib.hid hp
  clear hP hp he z0 z1 hw2 hh2
  go_enter Try.func50, Try.ntmps50
  go_wp2_with ((go_at_call 14; refine (checkGray_any _ _ _ _ _ _).mono ?_; rintro e w' ⟨rfl, rfl⟩))
  go_quiet (fail)
  go_wp2_with fail
  obtain ⟨w1, hw1⟩ : ∃ w1, w1 = ((((w.alloc (.cells #[.int .i64 W, .int .i64 H, .slice (some ⟨pb, po, none⟩) (W * H) c] 27)).alloc (.cells #[.int .i64 0, .int .i64 0, .slice none 0 0] 27)).alloc (.cells #[.int .i64 W, .int .i64 H, .slice (some ⟨pb, po, none⟩) (W * H) c] 27)).drewN nq) := ⟨_, rfl⟩
  have B1 : Below w.heap.size w w1 := by rw [hw1]; exact below_drewN (below_alloc (below_alloc (new_below _ _) _) _) _
  have q0 : w1.cell? ⟨w.heap.size, 0, none⟩ = some (.int .i64 W) := by rw [hw1]; go_simp
  have q1 : w1.cell? ⟨w.heap.size, 1, none⟩ = some (.int .i64 H) := by rw [hw1]; go_simp
  have q2 : w1.cell? ⟨w.heap.size, 2, none⟩ = some (.slice (some ⟨pb, po, none⟩) (W * H) c) := by rw [hw1]; go_simp
  have qb : w1.heap[w.heap.size + 1]? = some (.cells #[.int .i64 0, .int .i64 0, .slice none 0 0] 27 (0, 0)) := by
    rw [hw1]
    show (((w.alloc _).alloc _).alloc _).heap[w.heap.size + 1]? = _
    rw [Below.heap_alloc _ _ _ (by simp)]
    simpa using heap_alloc_new (w.alloc (.cells #[.int .i64 W, .int .i64 H, .slice (some ⟨pb, po, none⟩) (W * H) c] 27)) (.cells #[.int .i64 0, .int .i64 0, .slice none 0 0] 27)
  rw [← hw1]
  clear hw1
  have lt1 := (Array.getElem?_eq_some_iff.1 qb).1
  have hbb := Nat.mul_le_mul b1.2.1 b2.2.1
  refine (fillByte_any w2 h2 110 _ (mean4 P W H) w1 b1.1 (by omega) (by omega) (by omega) (Go.Proofs.enters_of Try.func110 (by kernel_rfl) rfl) ?_).mono ?_
  · intro x y wx hx hy hbx
    exact halve1_any W H x y w.heap.size pb po c P wx (by omega) (by omega) hN (by omega) (by omega) HP.out (cell_later hbx q0) (cell_later hbx q1) (cell_later hbx q2) (fun j hj => cell_later hbx (cell_later B1 (HC.out j hj)))
  · rintro e w5 ⟨v, rfl, hown, hb5⟩
    obtain ⟨j0, j1, j2, r0, r1, r2⟩ := block3 (below_block hb5 qb)
    obtain ⟨va, vn, vc, rfl⟩ := owns_shape hown
    have F := Lib.hid hown
    have G := Lib.hid hb5
    have L := Lib.hid lt1
    clear hown hb5 hbb lt1 q0 q1 q2
    go_wp2_with fail
    refine bodyPost_ret (v := .tuple #[.agg #[.int .i64 w2, .int .i64 h2, .slice va vn vc], .int .i64 0]) (by simp [results, Try.results50, go_sem, j0, j1, j2]) rfl ⟨_, rfl, owns_far3 F.out L.out B1.size, below_far3 (below_step B1 G.out) (by omega)⟩

end Go.Proofs.Ytcpgnfbjdokdcaa
namespace Go.Proofs.Ytcpgnfbjdokdcaa
open Go.RowKit
set_option linter.unusedSimpArgs false
set_option linter.unusedVariables false

set_option maxRecDepth 100000 in
theorem clone_any (g o n c : Nat) (z : Nat → Bool) (w : World) (hn : 1 ≤ n) (hn' : n ≤ 1048576) (hc : ∀ j, j < n → w.cell? ⟨g, o + j, none⟩ = some (.bool (z j))) :
    Calls Try.prog 113 #[.slice (some ⟨g, o, none⟩) n c] w fun e w' =>
      ∃ v, e = .returned v ∧ w'.ownsRow w.heap.size 4 1 v n ((List.range n).map fun k => Value.bool (z k)) ∧ Below w.heap.size w w' := by
  have qT : ∀ (w : World) (a : Option Addr) (n c n' c' : Nat), (binOp .eql 22 (.slice a n c) (.slice none n' c')).run Try.prog w = .ok (.bool a.isNone) w := fun w a n c n' c' => Lib.run_eql_slice_nil w _ _ a n c n' c' Try.underlying22
  obtain ⟨i0, hi, hz0, hz1, hz2⟩ := info_parts info_bool
  have HC := Lib.hid hc
  clear hc
  go_enter Try.func113, Try.ntmps113
  have hown : (w.alloc (.cells #[] 4)).ownsRow w.heap.size 4 1 (.slice (some ⟨w.heap.size, 0, none⟩) 0 0) 0 [] := World.ownsRow_made w #[] 0 (Nat.le_refl _) (by unfold maxLen; omega) rfl
  have HN := Lib.hid (show ∀ j u, ((List.range n).map fun k => Value.bool (z k))[j]? = some u → (w.alloc (.cells #[] 4)).cell? ((⟨g, o, none⟩ : Addr).add j) = some u by
    intro j u hu
    rw [List.getElem?_map] at hu
    by_cases hj : j < n
    · rw [List.getElem?_range hj] at hu
      simp at hu
      subst hu
      rw [Addr.add_lit]
      exact cell_later (new_below _ _) (HC.out j hj)
    · rw [List.getElem?_eq_none (by simpa using hj)] at hu
      simp at hu)
  have HO := Lib.hid hown
  clear hown
  go_wp2_with (at_builtin; refine wpList_append_own _ rfl _ _ 22 rfl w.heap.size 4 i0 (.bool false) 1 1 Try.underlying22 hi hz0 hz1 hz2 rfl (by decide) _ _ _ rfl HO.out ⟨g, o, none⟩ n c ((List.range n).map fun k => Value.bool (z k)) rfl ?c0 HN.out ?c2 ?c3 ?c4 ?c5 ?_)
  case c0 => simp
  case c2 => intro u hu; simp at hu; obtain ⟨k, _, rfl⟩ := hu; rfl
  case c3 => unfold maxLen; omega
  case c4 => omega
  case c5 => simp
  · intro v' w2 hown2 hgr2 _
    have B2 : Below w.heap.size w w2 := (new_below w (.cells #[] 4)).grown hgr2 (by simp) (fun k hk => by simp [Value.ownBlock] at hk; omega)
    have H2 := Lib.hid hown2
    clear hown2 hgr2
    go_wp2_with fail
    go_ret
    exact ⟨v', rfl, H2.out, B2⟩

theorem overlap_far (W S x : Int) (w : World) (hW : 1 ≤ W ∧ W ≤ 4000) (hS : 1 ≤ S ∧ S ≤ 4000) (h : W ≤ x ∨ x ≤ - S) :
    Calls Try.prog 114 #[.int .i64 W, .int .i64 S, .int .i64 x] w fun e w' => e = .returned (.tuple #[.int .i64 0, .int .i64 0]) ∧ w = w' := by
  by_cases h1 : W ≤ x
  · clear h
    go_enter Try.func114, Try.ntmps114
    go_wp2_with fail
    go_ret2
    exact ⟨rfl, rfl⟩
  · have h2 : x ≤ - S := by omega
    clear h
    go_enter Try.func114, Try.ntmps114
    go_wp2_with fail
    go_ret2
    exact ⟨rfl, rfl⟩

theorem overlap_near (W S x : Int) (w : World) (hW : 1 ≤ W ∧ W ≤ 4000) (hS : 1 ≤ S ∧ S ≤ 4000) (h1 : x < W) (h2 : - S < x) :
    Calls Try.prog 114 #[.int .i64 W, .int .i64 S, .int .i64 x] w fun e w' => e = .returned (.tuple #[.int .i64 (max (-x) 0), .int .i64 (min S (W - x))]) ∧ w = w' := by
  go_enter Try.func114, Try.ntmps114
  go_wp2_with fail
  go_ret2
  exact ⟨rfl, rfl⟩

end Go.Proofs.Ytcpgnfbjdokdcaa
namespace Go.Proofs.Ytcpgnfbjdokdcaa
open Go.RowKit
set_option linter.unusedSimpArgs false
set_option linter.unusedVariables false

/-- From f to t a side of length S that begins at x lies in a side of length W, and nothing else of it does. -/
def OvOK (W S : Nat) (x : Int) (f t : Nat) : Prop :=
  f ≤ t ∧ t ≤ 4000 ∧ (∀ i : Nat, f ≤ i → i < t → i < S ∧ 0 ≤ x + i ∧ x + i < W) ∧ ∀ a : Nat, a < W → 0 ≤ (a : Int) - x → (a : Int) - x < S → (f : Int) ≤ a - x ∧ (a : Int) - x < t

theorem overlap_any (W S : Nat) (x : Int) (w : World) (hW : 1 ≤ W ∧ W ≤ 4000) (hS : 1 ≤ S ∧ S ≤ 4000) :
    Calls Try.prog 114 #[.int .i64 W, .int .i64 S, .int .i64 x] w fun e w' => ∃ f t : Nat, e = .returned (.tuple #[.int .i64 f, .int .i64 t]) ∧ OvOK W S x f t ∧ w = w' := by
  by_cases h : (W : Int) ≤ x ∨ x ≤ - (S : Int)
  · refine (overlap_far W S x w (by omega) (by omega) h).mono ?_
    rintro e w' ⟨rfl, rfl⟩
    refine ⟨0, 0, rfl, ⟨Nat.le_refl _, by omega, fun i h1 h2 => by omega, fun a h1 h2 h3 => by omega⟩, rfl⟩
  · refine (overlap_near W S x w (by omega) (by omega) (by omega) (by omega)).mono ?_
    rintro e w' ⟨rfl, rfl⟩
    obtain ⟨f, hf⟩ := Int.eq_ofNat_of_zero_le (show 0 ≤ max (-x) 0 by omega)
    obtain ⟨t, ht⟩ := Int.eq_ofNat_of_zero_le (show 0 ≤ min (S : Int) (W - x) by omega)
    refine ⟨f, t, by rw [hf, ht], ⟨by omega, by omega, fun i h1 h2 => by omega, fun a h1 h2 h3 => by omega⟩, rfl⟩

/-- The place (a, b) lies in the other page. -/
def InC (Wc Hc : Nat) (x y : Int) (a b : Nat) : Prop := (0 ≤ (a : Int) - x ∧ (a : Int) - x < Wc) ∧ (0 ≤ (b : Int) - y ∧ (b : Int) - y < Hc)
instance (Wc Hc : Nat) (x y : Int) (a b : Nat) : Decidable (InC Wc Hc x y a b) := by unfold InC; infer_instance

/-- A place of the page with the other one pasted. -/
def pasteAt (W Wc Hc : Nat) (x y : Int) (z1 z2 : Nat → Bool) (a b : Nat) : Bool :=
  z1 (b * W + a) || (decide (InC Wc Hc x y a b) && z2 (((b : Int) - y).toNat * Wc + ((a : Int) - x).toNat))

/-- .. when rows before j and places before i of row j have been pasted. -/
def pasteVal (W Wc Hc : Nat) (x y : Int) (z1 z2 : Nat → Bool) (j i k : Nat) : Bool :=
  z1 k || (decide (InC Wc Hc x y (k % W) (k / W) ∧ ((((k / W : Nat) : Int) - y < j) ∨ (((k / W : Nat) : Int) - y = j ∧ ((k % W : Nat) : Int) - x < i))) && z2 ((((k / W : Nat) : Int) - y).toNat * Wc + (((k % W : Nat) : Int) - x).toNat))

def pasteList (W n Wc Hc : Nat) (x y : Int) (z1 z2 : Nat → Bool) (j i : Nat) : List Value := (List.range n).map fun k => Value.bool (pasteVal W Wc Hc x y z1 z2 j i k)

theorem divmod_wh {W H k : Nat} (hW : 1 ≤ W) (hk : k < W * H) : k % W < W ∧ k / W < H :=
  ⟨Nat.mod_lt _ (by omega), Nat.div_lt_of_lt_mul hk⟩

theorem pasteList_start (W H Wc Hc : Nat) (x y : Int) (z1 z2 : Nat → Bool) (fx tx fy ty : Nat) (hW : 1 ≤ W) (hx : OvOK W Wc x fx tx) (hy : OvOK H Hc y fy ty) :
    pasteList W (W * H) Wc Hc x y z1 z2 fy fx = (List.range (W * H)).map fun k => Value.bool (z1 k) := by
  unfold pasteList
  apply List.map_congr_left
  intro k hk
  have hk' : k < W * H := by simpa using hk
  obtain ⟨m1, m2⟩ := divmod_wh hW hk'
  have : ¬ (InC Wc Hc x y (k % W) (k / W) ∧ ((((k / W : Nat) : Int) - y < fy) ∨ (((k / W : Nat) : Int) - y = fy ∧ ((k % W : Nat) : Int) - x < fx))) := by
    rintro ⟨⟨⟨c1, c2⟩, ⟨c3, c4⟩⟩, h⟩
    have h1 := hx.2.2.2 _ m1 c1 c2
    have h2 := hy.2.2.2 _ m2 c3 c4
    omega
  unfold pasteVal
  rw [decide_eq_false this]
  simp

theorem pasteList_row (W H Wc Hc : Nat) (x y : Int) (z1 z2 : Nat → Bool) (fx tx j : Nat) (hW : 1 ≤ W) (hx : OvOK W Wc x fx tx) :
    pasteList W (W * H) Wc Hc x y z1 z2 j tx = pasteList W (W * H) Wc Hc x y z1 z2 (j + 1) fx := by
  unfold pasteList
  apply List.map_congr_left
  intro k hk
  have hk' : k < W * H := by simpa using hk
  obtain ⟨m1, m2⟩ := divmod_wh hW hk'
  have : (InC Wc Hc x y (k % W) (k / W) ∧ ((((k / W : Nat) : Int) - y < j) ∨ (((k / W : Nat) : Int) - y = j ∧ ((k % W : Nat) : Int) - x < tx))) ↔ (InC Wc Hc x y (k % W) (k / W) ∧ ((((k / W : Nat) : Int) - y < (j + 1 : Nat)) ∨ (((k / W : Nat) : Int) - y = (j + 1 : Nat) ∧ ((k % W : Nat) : Int) - x < fx))) := by
    constructor
    · rintro ⟨hc, h⟩
      exact ⟨hc, by omega⟩
    · rintro ⟨hc, h⟩
      have h1 := hx.2.2.2 _ m1 hc.1.1 hc.1.2
      exact ⟨hc, by omega⟩
  unfold pasteVal
  rw [decide_eq_decide.2 this]

theorem pasteList_end (W H Wc Hc : Nat) (x y : Int) (z1 z2 : Nat → Bool) (fx fy ty : Nat) (hW : 1 ≤ W) (hy : OvOK H Hc y fy ty) (k : Nat) (hk : k < W * H) :
    pasteVal W Wc Hc x y z1 z2 ty fx k = pasteAt W Wc Hc x y z1 z2 (k % W) (k / W) := by
  obtain ⟨m1, m2⟩ := divmod_wh hW hk
  have : (InC Wc Hc x y (k % W) (k / W) ∧ ((((k / W : Nat) : Int) - y < ty) ∨ (((k / W : Nat) : Int) - y = ty ∧ ((k % W : Nat) : Int) - x < fx))) ↔ InC Wc Hc x y (k % W) (k / W) := by
    constructor
    · exact fun h => h.1
    · intro hc
      have h2 := hy.2.2.2 _ m2 hc.2.1 hc.2.2
      exact ⟨hc, by omega⟩
  unfold pasteVal pasteAt
  rw [decide_eq_decide.2 this, show k / W * W + k % W = k by rw [Nat.mul_comm]; exact Nat.div_add_mod k W]

theorem pasteList_step (W H Wc Hc : Nat) (x y : Int) (z1 z2 : Nat → Bool) (j i a b : Nat) (hW : 1 ≤ W) (ha : (a : Int) = x + i) (hb : (b : Int) = y + j) (haW : a < W) (hbH : b < H) (hi : i < Wc) (hj : j < Hc) :
    pasteList W (W * H) Wc Hc x y z1 z2 j (i + 1) = if z2 (j * Wc + i) = true then (pasteList W (W * H) Wc Hc x y z1 z2 j i).set (b * W + a) (.bool true) else pasteList W (W * H) Wc Hc x y z1 z2 j i := by
  have hdm : (b * W + a) / W = b ∧ (b * W + a) % W = a := by
    rw [Nat.mul_comm]
    exact ⟨by rw [Nat.mul_add_div (by omega), Nat.div_eq_of_lt haW, Nat.add_zero], by rw [Nat.mul_add_mod, Nat.mod_eq_of_lt haW]⟩
  have key : ∀ k, k < W * H → pasteVal W Wc Hc x y z1 z2 j (i + 1) k = if k = b * W + a then (pasteVal W Wc Hc x y z1 z2 j i k || z2 (j * Wc + i)) else pasteVal W Wc Hc x y z1 z2 j i k := by
    intro k hk
    obtain ⟨m1, m2⟩ := divmod_wh hW hk
    by_cases hkk : k = b * W + a
    · rw [if_pos hkk]
      subst hkk
      unfold pasteVal
      rw [hdm.1, hdm.2]
      have c1 : InC Wc Hc x y a b ∧ (((b : Int) - y < j) ∨ ((b : Int) - y = j ∧ (a : Int) - x < (i + 1 : Nat))) := ⟨⟨⟨by omega, by omega⟩, ⟨by omega, by omega⟩⟩, by omega⟩
      have c2 : ¬ (InC Wc Hc x y a b ∧ (((b : Int) - y < j) ∨ ((b : Int) - y = j ∧ (a : Int) - x < (i : Nat)))) := by rintro ⟨_, h⟩; omega
      rw [decide_eq_true c1, decide_eq_false c2, show ((b : Int) - y).toNat = j by omega, show ((a : Int) - x).toNat = i by omega]
      simp
    · rw [if_neg hkk]
      have : (InC Wc Hc x y (k % W) (k / W) ∧ ((((k / W : Nat) : Int) - y < j) ∨ (((k / W : Nat) : Int) - y = j ∧ ((k % W : Nat) : Int) - x < (i + 1 : Nat)))) ↔ (InC Wc Hc x y (k % W) (k / W) ∧ ((((k / W : Nat) : Int) - y < j) ∨ (((k / W : Nat) : Int) - y = j ∧ ((k % W : Nat) : Int) - x < i))) := by
        constructor
        · rintro ⟨hc, h⟩
          refine ⟨hc, ?_⟩
          rcases h with h | ⟨h1, h2⟩
          · exact .inl h
          · by_cases h3 : ((k % W : Nat) : Int) - x < i
            · exact .inr ⟨h1, h3⟩
            · exfalso
              apply hkk
              have e1 : k / W = b := by omega
              have e2 : k % W = a := by omega
              have := Nat.div_add_mod k W
              rw [e1, e2, Nat.mul_comm] at this
              omega
        · rintro ⟨hc, h⟩
          exact ⟨hc, by omega⟩
      unfold pasteVal
      rw [decide_eq_decide.2 this]
  by_cases hz : z2 (j * Wc + i) = true
  · rw [if_pos hz]
    apply List.ext_getElem
    · simp [pasteList]
    · intro k h1 h2
      have hk : k < W * H := by simpa [pasteList] using h1
      rw [List.getElem_set]
      simp only [pasteList, List.getElem_map, List.getElem_range]
      rw [key k hk]
      by_cases hkk : k = b * W + a
      · rw [if_pos hkk, if_pos hkk.symm, hz]; simp
      · rw [if_neg hkk, if_neg (fun e => hkk e.symm)]
  · rw [if_neg hz]
    have hz' : z2 (j * Wc + i) = false := by simpa using hz
    unfold pasteList
    apply List.map_congr_left
    intro k hk
    rw [key k (by simpa using hk)]
    by_cases hkk : k = b * W + a
    · rw [if_pos hkk, hz', Bool.or_false]
    · rw [if_neg hkk]

end Go.Proofs.Ytcpgnfbjdokdcaa
namespace Go.Proofs.Ytcpgnfbjdokdcaa
open Go.RowKit
set_option linter.unusedSimpArgs false
set_option linter.unusedVariables false

set_option maxHeartbeats 800000 in
set_option maxRecDepth 100000 in
theorem pasteOf1_any (W H Wc Hc g1 o1 c1 g2 o2 c2 i j xb cb bb yb : Nat) (x y : Int) (z1 z2 : Nat → Bool) (w : World) (hW : 1 ≤ W ∧ W ≤ 4000) (hH : 1 ≤ H ∧ H ≤ 4000) (hWc : 1 ≤ Wc ∧ Wc ≤ 4000) (hHc : 1 ≤ Hc ∧ Hc ≤ 4000) (hi : i < W) (hj : j < H)
    (kx : w.cell? ⟨xb, 0, none⟩ = some (.int .i64 x)) (ky : w.cell? ⟨yb, 0, none⟩ = some (.int .i64 y))
    (kb0 : w.cell? ⟨bb, 0, none⟩ = some (.int .i64 W)) (kb1 : w.cell? ⟨bb, 1, none⟩ = some (.int .i64 H)) (kb2 : w.cell? ⟨bb, 2, none⟩ = some (.slice (some ⟨g1, o1, none⟩) (W * H) c1))
    (kc0 : w.cell? ⟨cb, 0, none⟩ = some (.int .i64 Wc)) (kc1 : w.cell? ⟨cb, 1, none⟩ = some (.int .i64 Hc)) (kc2 : w.cell? ⟨cb, 2, none⟩ = some (.slice (some ⟨g2, o2, none⟩) (Wc * Hc) c2))
    (hz1 : ∀ k, k < W * H → w.cell? ⟨g1, o1 + k, none⟩ = some (.bool (z1 k))) (hz2 : ∀ k, k < Wc * Hc → w.cell? ⟨g2, o2 + k, none⟩ = some (.bool (z2 k))) :
    Calls Try.prog 115 #[.int .i64 i, .int .i64 j, .pointer (some ⟨xb, 0, none⟩), .pointer (some ⟨cb, 0, none⟩), .pointer (some ⟨bb, 0, none⟩), .pointer (some ⟨yb, 0, none⟩)] w fun e w' => e = .returned (.bool (pasteAt W Wc Hc x y z1 z2 i j)) ∧ Below w.heap.size w w' := by
  have hfit := row_fits hj (show i + 1 ≤ W by omega)
  have HA := Lib.hid (at_in W H g1 o1 c1 i j (z1 (j * W + i)) w (by omega) (by omega) hi hj (hz1 _ (by omega)))
  obtain ⟨q1, hq1⟩ : ∃ q, q = z1 (j * W + i) := ⟨_, rfl⟩
  rw [← hq1] at HA
  have hp : pasteAt W Wc Hc x y z1 z2 i j = (q1 || (decide (InC Wc Hc x y i j) && z2 (((j : Int) - y).toNat * Wc + ((i : Int) - x).toNat))) := by rw [hq1]; rfl
  have HP := Lib.hid hp
  have lx := World.block_lt_of_cell? _ _ kx
  have ly := World.block_lt_of_cell? _ _ ky
  have lc := World.block_lt_of_cell? _ _ kc0
  simp only at lx ly lc
  clear hq1 hp hfit
  by_cases n1 : -(Wc : Int) ≤ x ∧ x ≤ (W : Int)
  · by_cases n2 : -(Hc : Int) ≤ y ∧ y ≤ (H : Int)
    · by_cases hq : q1 = true
      · subst hq
        have HZ2 := Lib.hid hz2
        clear hz1 hz2
        go_enter Try.func115, Try.ntmps115
        go_wp2_with (first | (go_at_call 47; refine (in_yes _ _ _ _ (by omega)).mono ?_; rintro e w' ⟨rfl, rfl⟩) | (go_at_call 41; refine HA.out.mono ?_; rintro e wa ⟨rfl, hba⟩))
        go_ret
        exact ⟨ret_bool (by rw [HP.out]; rfl), hba⟩
      · obtain rfl : q1 = false := by simpa using hq
        by_cases hin : InC Wc Hc x y i j
        · obtain ⟨a, ha⟩ := Int.eq_ofNat_of_zero_le hin.1.1
          obtain ⟨b, hb⟩ := Int.eq_ofNat_of_zero_le hin.2.1
          have haw : a < Wc := by have := hin.1.2; omega
          have hbw : b < Hc := by have := hin.2.2; omega
          have hfit2 := row_fits hbw (show a + 1 ≤ Wc by omega)
          have HR := Lib.hid (show pasteAt W Wc Hc x y z1 z2 i j = z2 (b * Wc + a) by rw [HP.out, ha, hb, decide_eq_true hin]; simp)
          have HC := Lib.hid (fun (wa : World) (hba : Below w.heap.size w wa) => at_in Wc Hc g2 o2 c2 a b (z2 (b * Wc + a)) wa (by omega) (by omega) haw hbw (cell_later hba (hz2 _ (by omega))))
          have ea : (i : Int) - x = (a : Int) := ha
          have eb : (j : Int) - y = (b : Int) := hb
          obtain ⟨q2, hq2⟩ : ∃ q, q = z2 (b * Wc + a) := ⟨_, rfl⟩
          rw [← hq2] at HC HR
          clear hz1 hz2 hin ha hb hq2 hfit2
          go_enter Try.func115, Try.ntmps115
          go_wp2_with (first | (go_at_call 47; refine (in_yes _ _ _ _ (by omega)).mono ?_; rintro e w' ⟨rfl, rfl⟩))
          refine HA.out.mono ?_
          rintro e wa ⟨rfl, hba⟩
          have s0 := cell_later hba kx
          have s1 := cell_later hba ky
          have s2 := cell_later hba kc0
          have s3 := cell_later hba kc1
          have s4 := cell_later hba kc2
          have HB := Lib.hid hba
          clear hba kx ky kb0 kb1 kb2 kc0 kc1 kc2 lx ly lc
          go_wp2_with fail
          refine (HC.out wa HB.out).mono ?_
          rintro e wd ⟨rfl, hbd⟩
          go_wp2_with fail
          go_ret
          exact ⟨ret_bool HR.out.symm, below_step HB.out hbd⟩
        · have HR := Lib.hid (show pasteAt W Wc Hc x y z1 z2 i j = false by rw [HP.out, decide_eq_false hin]; simp)
          have HC := Lib.hid (fun (wa : World) => at_out Wc Hc g2 o2 (Wc * Hc) c2 ((i : Int) - x) ((j : Int) - y) (some ⟨g2, o2, none⟩) wa (by omega) (by omega) (fun k => hin ⟨⟨by omega, by omega⟩, ⟨by omega, by omega⟩⟩))
          clear hz1 hz2 hin
          go_enter Try.func115, Try.ntmps115
          go_wp2_with (first | (go_at_call 47; refine (in_yes _ _ _ _ (by omega)).mono ?_; rintro e w' ⟨rfl, rfl⟩))
          refine HA.out.mono ?_
          rintro e wa ⟨rfl, hba⟩
          have s0 := cell_later hba kx
          have s1 := cell_later hba ky
          have s2 := cell_later hba kc0
          have s3 := cell_later hba kc1
          have s4 := cell_later hba kc2
          have HB := Lib.hid hba
          clear hba kx ky kb0 kb1 kb2 kc0 kc1 kc2 lx ly lc
          go_wp2_with fail
          refine (HC.out wa).mono ?_
          rintro e wd ⟨rfl, hbd⟩
          go_wp2_with fail
          go_ret
          exact ⟨ret_bool HR.out.symm, below_step HB.out hbd⟩
    · have hin : ¬ InC Wc Hc x y i j := fun hin => n2 (by have h1 := hin.2.1; have h2 := hin.2.2; omega)
      have HR := Lib.hid (show pasteAt W Wc Hc x y z1 z2 i j = q1 by rw [HP.out, decide_eq_false hin]; simp)
      have N2 := Lib.hid n2
      clear hz1 hz2 hin n2
      cases q1
      · go_enter Try.func115, Try.ntmps115
        go_wp2_with (first | (go_at_call 47; refine (in_yes _ _ _ _ (by omega)).mono ?_; rintro e w' ⟨rfl, rfl⟩) | (go_at_call 47; refine (in_no _ _ _ _ (by have := N2.out; omega)).mono ?_; rintro e w' ⟨rfl, rfl⟩) | (go_at_call 41; refine HA.out.mono ?_; rintro e wa ⟨rfl, hba⟩))
        go_ret
        exact ⟨ret_bool HR.out.symm, hba⟩
      · go_enter Try.func115, Try.ntmps115
        go_wp2_with (first | (go_at_call 47; refine (in_yes _ _ _ _ (by omega)).mono ?_; rintro e w' ⟨rfl, rfl⟩) | (go_at_call 47; refine (in_no _ _ _ _ (by have := N2.out; omega)).mono ?_; rintro e w' ⟨rfl, rfl⟩) | (go_at_call 41; refine HA.out.mono ?_; rintro e wa ⟨rfl, hba⟩))
        go_ret
        exact ⟨ret_bool HR.out.symm, hba⟩
  · have hin : ¬ InC Wc Hc x y i j := fun hin => n1 (by have h1 := hin.1.1; have h2 := hin.1.2; omega)
    have HR := Lib.hid (show pasteAt W Wc Hc x y z1 z2 i j = q1 by rw [HP.out, decide_eq_false hin]; simp)
    have N1 := Lib.hid n1
    clear hz1 hz2 hin n1
    cases q1
    · go_enter Try.func115, Try.ntmps115
      go_wp2_with (first | (go_at_call 47; refine (in_no _ _ _ _ (by have := N1.out; omega)).mono ?_; rintro e w' ⟨rfl, rfl⟩) | (go_at_call 41; refine HA.out.mono ?_; rintro e wa ⟨rfl, hba⟩))
      go_ret
      exact ⟨ret_bool HR.out.symm, hba⟩
    · go_enter Try.func115, Try.ntmps115
      go_wp2_with (first | (go_at_call 47; refine (in_no _ _ _ _ (by have := N1.out; omega)).mono ?_; rintro e w' ⟨rfl, rfl⟩) | (go_at_call 41; refine HA.out.mono ?_; rintro e wa ⟨rfl, hba⟩))
      go_ret
      exact ⟨ret_bool HR.out.symm, hba⟩

end Go.Proofs.Ytcpgnfbjdokdcaa
