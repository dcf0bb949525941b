/-
  What inkSpreads_holds leans on: contracts of the functions that it calls.
-/
import Derived.Test.YtlpdgnhlhopmjaaRows
import Derived.WalkKit
import Derived.WalkSpells
import Derived.WalkLawsBesides
import Derived.Lib.Hide
import Derived.Deep.RegionHeld3
import Derived.Shelf.Abstract
import Derived.Lib.MinMax
import Derived.Deep.QuietTactic
import Derived.BigQuiet
import Derived.Deep.CutRange
import Derived.Deep.DeepCutAuto
import Derived.Laws.EntriesVeiled
import Derived.StillTailTactics
import Derived.Deep.AppendLies
import Derived.Deep.DrawnRows
import Derived.Deep.RegionLaw
import Derived.ProofKit
import Derived.OpenShut
import Derived.ShutString
import Derived.ChangeOld
import Derived.Lib.SmallJoins
import Derived.Deep.Grids
import Derived.RegionTactic
import Derived.ChangeAlike
import Derived.BigRegion
import Derived.Test.YtlpdgnhlhopmjaaCInk1
namespace Go.Proofs.Ytlpdgnhlhopmjaa
open Go.RowKit
set_option linter.unusedSimpArgs false
set_option linter.unusedVariables false
attribute [local go_sem ↓] Go.wp_at_zero Go.wp_at_succ

/-- What holds while Made runs: n values are there; they lie in a row of their own, which the page's variable leads to. -/
def MadeRel (w h : Nat) (f : Nat → Nat → Bool) (W0 : World) (n : Nat) (wr : World) (v : Value) : Prop :=
  wr.ownsRow (W0.heap.size + 2) 4 1 v n ((places w f n).map Value.bool) ∧ wr.heap[W0.heap.size]? = some (.cells #[.int .i64 0, .int .i64 0, .slice none 0 0] 40 (0, 0)) ∧
  wr.heap[W0.heap.size + 1]? = some (.cells #[.int .i64 w, .int .i64 h, v] 40 (0, 0)) ∧ Below W0.heap.size W0 wr

theorem MadeRel.later {w h : Nat} {f : Nat → Nat → Bool} {W0 wr w' : World} {n : Nat} {v : Value} (hr : MadeRel w h f W0 n wr v) (hb : Below wr.heap.size wr w') : MadeRel w h f W0 n w' v :=
  ⟨below_owns hr.1 hb, below_block hb hr.2.1, below_block hb hr.2.2.1, below_step hr.2.2.2 hb⟩

theorem MadeRel.stored {w h : Nat} {f : Nat → Nat → Bool} {W0 wr w1 : World} {v v' : Value} {x y : Nat} (hr : MadeRel w h f W0 (y * w + x) wr v) (hx : x < w) (q : Bool) (hq : q = f x y)
    (hown : w1.ownsRow (W0.heap.size + 2) 4 1 v' (y * w + x + 1) ((places w f (y * w + x)).map Value.bool ++ [Value.bool q])) (hg : wr.grownBy w1 v.ownBlock) :
    MadeRel w h f W0 (y * w + x + 1) (w1.setCell ⟨W0.heap.size + 1, 2, none⟩ v') v' := by
  obtain ⟨h1, h2, h3, h4⟩ := hr
  have hrow : ∀ k, v.ownBlock = some k → W0.heap.size + 2 ≤ k := fun k hk => (h1.lt k hk).1
  have n0 : some W0.heap.size ≠ v.ownBlock := fun e => by have := hrow _ e.symm; omega
  have n1 : some (W0.heap.size + 1) ≠ v.ownBlock := fun e => by have := hrow _ e.symm; omega
  refine ⟨?_, ?_, ?_, ?_⟩
  · rw [places_succ w f x y hx, List.map_append, ← hq]
    exact ownsRow_setCell_below hown (by simp) _
  · rw [Below.heap_setCell _ _ _ _ (by simp)]
    exact grown_block hg h2 n0
  · exact heap_setCell_same w1 (W0.heap.size + 1) 2 #[.int .i64 w, .int .i64 h, v] 40 v' (grown_block hg h3 n1)
  · exact (h4.grown hg h4.size (fun k hk => by have := hrow k hk; omega)).setCell (by simp) _

set_option maxHeartbeats 2000000 in
set_option maxRecDepth 100000 in
theorem made_any (w h g : Nat) (capt : Array Value) (f : Nat → Nat → Bool) (W0 : World) (hw : 1 ≤ w) (hw' : w ≤ 10000000) (hh : h ≤ 10000000) (hN : w * h ≤ 10000000)
    (eg : ∀ (args : Array Value) (W : World), (callFunc g args).run Try.prog W = .ok (.enter g args) W)
    (hc : ∀ (x y : Nat) (W : World), x < w → y < h → Below W0.heap.size W0 W → Calls Try.prog g (#[.int .i64 x, .int .i64 y] ++ capt) W fun e W' => e = .returned (.bool (f x y)) ∧ Below W.heap.size W W') :
    Calls Try.prog 41 #[.int .i64 w, .int .i64 h, .func (.func g) #[] capt] W0 fun e W' =>
      ∃ v, e = .returned (.agg #[.int .i64 w, .int .i64 h, v]) ∧ W'.ownsRow W0.heap.size 4 1 v (w * h) ((places w f (w * h)).map Value.bool) ∧ Below W0.heap.size W0 W' := by
  obtain ⟨i0, hi, hz0, hz1, hz2⟩ := info_parts info_bool
  have HC := Lib.hid hc
  clear hc
  go_enter Try.func41, Try.ntmps41
  go_wp2_with fail
  obtain ⟨w1, hw1⟩ : ∃ w1, w1 = (W0.alloc (.cells #[.int .i64 0, .int .i64 0, .slice none 0 0] 40)).alloc (.cells #[.int .i64 w, .int .i64 h, .slice none 0 0] 40) := ⟨_, rfl⟩
  have B1 : Below W0.heap.size W0 w1 := by rw [hw1]; exact below_alloc (new_below _ _) _
  have b0 : w1.heap[W0.heap.size]? = some (.cells #[.int .i64 0, .int .i64 0, .slice none 0 0] 40 (0, 0)) := by
    rw [hw1, Below.heap_alloc _ _ _ (by simp)]; exact heap_alloc_new _ _
  have b1 : w1.heap[W0.heap.size + 1]? = some (.cells #[.int .i64 w, .int .i64 h, .slice none 0 0] 40 (0, 0)) := by
    rw [hw1]; simpa using heap_alloc_new (W0.alloc (.cells #[.int .i64 0, .int .i64 0, .slice none 0 0] 40)) (.cells #[.int .i64 w, .int .i64 h, .slice none 0 0] 40)
  rw [← hw1]
  clear hw1
  have R1 : MadeRel w h f W0 0 w1 (.slice none 0 0) := ⟨by simpa [places] using World.ownsRow_nil _ _ _ _, b0, b1, B1⟩
  clear b0 b1 B1
  go_loopw [14] (fun i wr => ∃ (y : Nat) (v : Value), y ≤ h ∧ i = .int .i64 y ∧ MadeRel w h f W0 (y * w) wr v) (fun i _ => h - (intOf i).toNat)
  case atStart => exact ⟨0, _, Nat.zero_le _, rfl, by simpa using R1⟩
  case round =>
    obtain ⟨y, v0, hy, rfl, hrel0⟩ := hrel
    clear R1
    by_cases hlt : y < h
    · obtain ⟨wo, rfl⟩ : ∃ wo : World, wo = wr := ⟨_, rfl⟩
      go_wp2_with fail
      go_loopw [18] (fun i wr => ∃ (x : Nat) (v : Value), x ≤ w ∧ i = .int .i64 x ∧ MadeRel w h f W0 (y * w + x) wr v) (fun i _ => w - (intOf i).toNat)
      case atStart => exact ⟨0, v0, Nat.zero_le _, rfl, by simpa using hrel0⟩
      case round =>
        obtain ⟨x, v, hx, rfl, hrelr⟩ := hrel
        clear hrel0
        by_cases hltx : x < w
        · have HC' := HC.out x y
          have hfit := row_fits hlt (show x + 1 ≤ w by omega)
          obtain ⟨k0, k1, k2, r0, r1, r2⟩ := block3 hrelr.2.2.1
          have hl := World.block_lt_of_cell? _ _ k2
          simp only at hl
          have HR := Lib.hid hrelr
          obtain ⟨q, hq⟩ : ∃ q, q = f x y := ⟨_, rfl⟩
          rw [← hq] at HC'
          have HQ := Lib.hid hq
          have hnb : some (W0.heap.size + 1) ≠ v.ownBlock := fun e => by have := (hrelr.1.lt _ e.symm).1; omega
          clear hq hrelr k0 k1 r0 r1
          go_wp2_with fail
          go_region_law ((first | (go_simp; go_at_fn g; refine (HC' _ hltx hlt (HR.out.2.2.2.drew)).mono ?_; rintro e w' ⟨rfl, hb'⟩; have hrel' := HR.out.later (below_step (Below.refl _ _).drew hb'); have kk := cell_later (below_step (Below.refl _ _).drew hb') k2; have hl' := Nat.lt_of_lt_of_le hl hb'.size) | (refine step_append_lies _ (by rfl) _ _ _ (by rfl) (W0.heap.size + 2) 4 i0 (.bool false) 1 1 Try.underlying38 hi hz0 hz1 hz2 rfl (by omega) v (y * w + x) _ (by rfl) (hrel'.1.alloc _) ⟨w'.heap.size, 0, none⟩ 1 1 [.bool q] (by rfl) (by rfl) (cell_one_new _ _ _) (by simp [Value.oneCell']) (by omega) (by unfold maxLen; omega) (by omega) (by have := hrel'.2.2.2.size; have := World.block_lt_of_cell? _ _ (block3 hrel'.2.2.1).1; simp at this; simp; omega) (w'.heap.size + 1) (by simp) ?_; intro gg cap w5 hown5 hgrow hat hlt5; have hb5 := block3 (grown_block hgrow ((Below.heap_alloc _ _ _ (Array.getElem?_eq_some_iff.1 hrel'.2.2.1).1).trans hrel'.2.2.1) hnb); have hfz5 := hb5.2.2.2.2.2; have hcl5 := hb5.2.2.1; clear hb5)))
          all_goals
            have RR := (hrel'.later (new_below w' _)).stored hltx q HQ.out hown5 hgrow
            clear hown5 hgrow hat hlt5 hfz5 hcl5 hrel' kk hl' hb' HC' k2 hl hnb
            go_wp2_with fail
            go_roundw
            case rel => exact ⟨x + 1, _, by omega, by go_num, RR⟩
            case measure => simp [intOf]; omega
        · have hxe := Lib.hid (show x = w by omega)
          go_wp2_with fail
          go_roundw
          case rel => exact ⟨y + 1, v, by omega, by go_num, by rw [show (y + 1) * w = y * w + x by rw [hxe.out, Nat.add_mul, Nat.one_mul]]; exact hrelr⟩
          case measure => simp [intOf]; omega
    · have hye := Lib.hid (show y = h by omega)
      obtain ⟨va, vn, vc, rfl⟩ : ∃ a n c, v0 = .slice a n c := by
        rcases hrel0.1.2 with ⟨h0, _⟩ | ⟨g, cap, cur, h0, _⟩
        · exact ⟨_, _, _, h0⟩
        · exact ⟨_, _, _, h0⟩
      have HR := Lib.hid hrel0
      obtain ⟨k0, k1, k2, _, _, _⟩ := block3 hrel0.2.2.1
      obtain ⟨j0, j1, j2, r0, r1, r2⟩ := block3 hrel0.2.1
      clear hrel0
      go_wp2_with fail
      refine bodyPost_ret (v := .agg #[.int .i64 w, .int .i64 h, .slice va vn vc]) (by simp [results, Try.results41, go_sem, j0, j1, j2]) rfl ⟨_, rfl, ?_, ?_⟩
      · have h1 := HR.out.1
        rw [hye.out, Nat.mul_comm h w] at h1
        exact owns_base (ownsRow_setCell_below (ownsRow_setCell_below (ownsRow_setCell_below h1 (by simp) _) (by simp) _) (by simp) _) (by omega)
      · exact ((HR.out.2.2.2.setCell (by simp) _).setCell (by simp) _).setCell (by simp) _

end Go.Proofs.Ytlpdgnhlhopmjaa
namespace Go.Proofs.Ytlpdgnhlhopmjaa
open Go.RowKit
set_option linter.unusedSimpArgs false
set_option linter.unusedVariables false
attribute [local go_sem ↓] Go.wp_at_zero Go.wp_at_succ

/-- What holds while Made runs: n values are there; they lie in a row of their own, which the page's variable leads to. -/
def MadeRelY (w h : Nat) (f : Nat → Nat → Int) (W0 : World) (n : Nat) (wr : World) (v : Value) : Prop :=
  wr.ownsRow (W0.heap.size + 2) 5 1 v n ((places w f n).map (Value.int .u8)) ∧ wr.heap[W0.heap.size]? = some (.cells #[.int .i64 0, .int .i64 0, .slice none 0 0] 24 (0, 0)) ∧
  wr.heap[W0.heap.size + 1]? = some (.cells #[.int .i64 w, .int .i64 h, v] 24 (0, 0)) ∧ Below W0.heap.size W0 wr

theorem MadeRelY.later {w h : Nat} {f : Nat → Nat → Int} {W0 wr w' : World} {n : Nat} {v : Value} (hr : MadeRelY w h f W0 n wr v) (hb : Below wr.heap.size wr w') : MadeRelY w h f W0 n w' v :=
  ⟨below_owns hr.1 hb, below_block hb hr.2.1, below_block hb hr.2.2.1, below_step hr.2.2.2 hb⟩

theorem MadeRelY.stored {w h : Nat} {f : Nat → Nat → Int} {W0 wr w1 : World} {v v' : Value} {x y : Nat} (hr : MadeRelY w h f W0 (y * w + x) wr v) (hx : x < w) (q : Int) (hq : q = f x y)
    (hown : w1.ownsRow (W0.heap.size + 2) 5 1 v' (y * w + x + 1) ((places w f (y * w + x)).map (Value.int .u8) ++ [Value.int .u8 q])) (hg : wr.grownBy w1 v.ownBlock) :
    MadeRelY w h f W0 (y * w + x + 1) (w1.setCell ⟨W0.heap.size + 1, 2, none⟩ v') v' := by
  obtain ⟨h1, h2, h3, h4⟩ := hr
  have hrow : ∀ k, v.ownBlock = some k → W0.heap.size + 2 ≤ k := fun k hk => (h1.lt k hk).1
  have n0 : some W0.heap.size ≠ v.ownBlock := fun e => by have := hrow _ e.symm; omega
  have n1 : some (W0.heap.size + 1) ≠ v.ownBlock := fun e => by have := hrow _ e.symm; omega
  refine ⟨?_, ?_, ?_, ?_⟩
  · rw [places_succ w f x y hx, List.map_append, ← hq]
    exact ownsRow_setCell_below hown (by simp) _
  · rw [Below.heap_setCell _ _ _ _ (by simp)]
    exact grown_block hg h2 n0
  · exact heap_setCell_same w1 (W0.heap.size + 1) 2 #[.int .i64 w, .int .i64 h, v] 24 v' (grown_block hg h3 n1)
  · exact (h4.grown hg h4.size (fun k hk => by have := hrow k hk; omega)).setCell (by simp) _

end Go.Proofs.Ytlpdgnhlhopmjaa
namespace Go.Proofs.Ytlpdgnhlhopmjaa
open Go.RowKit
set_option linter.unusedSimpArgs false
set_option linter.unusedVariables false

def smB (c : Int) : Bool := decide (97 ≤ c ∧ c ≤ 122)
def dgB (c : Int) : Bool := decide (48 ≤ c ∧ c ≤ 57)

theorem isSmall_any (c : Int) (w : World) : Calls Try.prog 53 #[.int .u8 c] w fun e w' => e = .returned (.bool (smB c)) ∧ w = w' := by
  by_cases h1 : 97 ≤ c
  · by_cases h2 : c ≤ 122
    · have H := Lib.hid (show smB c = true from decide_eq_true ⟨h1, h2⟩)
      go_enter Try.func53, Try.ntmps53
      go_wp2
      go_ret
      exact ⟨ret_bool H.out.symm, rfl⟩
    · have H := Lib.hid (show smB c = false from decide_eq_false (fun k => h2 k.2))
      go_enter Try.func53, Try.ntmps53
      go_wp2
      go_ret
      exact ⟨ret_bool H.out.symm, rfl⟩
  · have H := Lib.hid (show smB c = false from decide_eq_false (fun k => h1 k.1))
    go_enter Try.func53, Try.ntmps53
    go_wp2
    go_ret
    exact ⟨ret_bool H.out.symm, rfl⟩

theorem isDigit_any (c : Int) (w : World) : Calls Try.prog 54 #[.int .u8 c] w fun e w' => e = .returned (.bool (dgB c)) ∧ w = w' := by
  by_cases h1 : 48 ≤ c
  · by_cases h2 : c ≤ 57
    · have H := Lib.hid (show dgB c = true from decide_eq_true ⟨h1, h2⟩)
      go_enter Try.func54, Try.ntmps54
      go_wp2
      go_ret
      exact ⟨ret_bool H.out.symm, rfl⟩
    · have H := Lib.hid (show dgB c = false from decide_eq_false (fun k => h2 k.2))
      go_enter Try.func54, Try.ntmps54
      go_wp2
      go_ret
      exact ⟨ret_bool H.out.symm, rfl⟩
  · have H := Lib.hid (show dgB c = false from decide_eq_false (fun k => h1 k.1))
    go_enter Try.func54, Try.ntmps54
    go_wp2
    go_ret
    exact ⟨ret_bool H.out.symm, rfl⟩

/-- The byte at a place, as a number. -/
def byteAt (s : ByteArray) (k : Nat) : Int := ((s.data.toList.getD k 0).toNat : Int)
theorem byteAt_get (s : ByteArray) (k : Nat) (h : k < s.size) : (s[k].toNat : Int) = byteAt s k := by
  unfold byteAt
  rw [List.getD_eq_getElem?_getD, List.getElem?_eq_getElem (by simpa using h)]
  rfl

def goodB (s : ByteArray) (k : Nat) : Bool := smB (byteAt s k) || (decide (k ≠ 0) && (dgB (byteAt s k) || decide (byteAt s k = 45)))
def NameP (s : ByteArray) : Prop := (1 ≤ s.size ∧ s.size ≤ 40) ∧ ∀ k, k < s.size → goodB s k = true

/-- It returns a bool that says whether P. -/
def SaysIf (P : Prop) (w : World) (e : Ending) (w' : World) : Prop := ∃ q, e = .returned (.bool q) ∧ (q = true ↔ P) ∧ w = w'
theorem says_no {P : Prop} {w : World} (h : ¬ P) : SaysIf P w (.returned (.bool false)) w := ⟨false, rfl, by simp [h], rfl⟩
theorem says_yes {P : Prop} {w : World} (h : P) : SaysIf P w (.returned (.bool true)) w := ⟨true, rfl, by simp [h], rfl⟩

theorem good_next {s : ByteArray} {k : Nat} (h : Hid (∀ j, j < k → goodB s j = true)) (hk : Hid (goodB s k = true)) : Hid (∀ j, j < k + 1 → goodB s j = true) :=
  Lib.hid fun j hj => by
    by_cases e : j = k
    · rw [e]; exact hk.out
    · exact h.out j (by omega)

set_option maxHeartbeats 400000 in
theorem isName_any (s : ByteArray) (w : World) (hs : s.size ≤ 9223372036854775807) : Calls Try.prog 34 #[.string s] w (SaysIf (NameP s) w) := by
  by_cases h1 : 1 ≤ s.size
  · by_cases h2 : s.size ≤ 40
    · have d1 : decide ((s.size : Int) < 1) = false := by simp; omega
      have d2 : decide ((40 : Int) < (s.size : Int)) = false := by simp; omega
      have hlt0 : 0 < s.size := by omega
      have E0 := Lib.hid (byteAt_get s 0 hlt0)
      by_cases hb : smB (s[0].toNat : Int) = true
      · have HB := Lib.hid (show smB (byteAt s 0) = true by rw [← E0.out]; exact hb)
        have H1 := Lib.hid h1
        have H2 := Lib.hid h2
        clear h1 h2
        go_enter Try.func34, Try.ntmps34
        go_wp2_with (first | (go_at_call 53; refine (isSmall_any _ _).mono ?_; rintro e w' ⟨rfl, rfl⟩) | (go_at_call 54; refine (isDigit_any _ _).mono ?_; rintro e w' ⟨rfl, rfl⟩))
        clear hb
        go_loop [21] (fun i => ∃ k : Nat, k ≤ s.size ∧ i = .int .i64 k ∧ Hid (∀ j, j < k → goodB s j = true)) (fun i => s.size - (intOf i).toNat)
        case atStart => exact ⟨0, Nat.zero_le _, rfl, fun j hj => by omega⟩
        case round =>
          obtain ⟨k, hk, rfl, hG⟩ := hrel
          by_cases hlt : k < s.size
          · have E := Lib.hid (byteAt_get s k hlt)
            by_cases a1 : smB (s[k].toNat : Int) = true
            · have hg := Lib.hid (show goodB s k = true by unfold goodB; rw [← E.out, a1]; rfl)
              go_wp2_with (first | (go_at_call 53; refine (isSmall_any _ _).mono ?_; rintro e w' ⟨rfl, rfl⟩) | (go_at_call 54; refine (isDigit_any _ _).mono ?_; rintro e w' ⟨rfl, rfl⟩))
              go_round
              case rel => exact ⟨k + 1, by omega, by go_num, good_next hG hg⟩
              case measure => simp [intOf]; omega
            · have a1' : smB (s[k].toNat : Int) = false := by simpa using a1
              have K0 := Lib.hid (show k ≠ 0 from fun e => a1 (by subst e; rw [E.out]; exact HB.out))
              clear a1
              by_cases a2 : dgB (s[k].toNat : Int) = true
              · have hg := Lib.hid (show goodB s k = true by unfold goodB; rw [← E.out, a1', a2]; simp [K0.out])
                go_wp2_with (first | (go_at_call 53; refine (isSmall_any _ _).mono ?_; rintro e w' ⟨rfl, rfl⟩) | (go_at_call 54; refine (isDigit_any _ _).mono ?_; rintro e w' ⟨rfl, rfl⟩))
                go_round
                case rel => exact ⟨k + 1, by omega, by go_num, good_next hG hg⟩
                case measure => simp [intOf]; omega
              · have a2' : dgB (s[k].toNat : Int) = false := by simpa using a2
                clear a2
                by_cases a3 : (s[k].toNat : Int) = 45
                · have a3' : ((s[k].toNat : Int) != 45) = false := by simpa using a3
                  have hg := Lib.hid (show goodB s k = true by unfold goodB; rw [← E.out, a1', a2']; simp [K0.out]; omega)
                  clear a3
                  go_wp2_with (first | (go_at_call 53; refine (isSmall_any _ _).mono ?_; rintro e w' ⟨rfl, rfl⟩) | (go_at_call 54; refine (isDigit_any _ _).mono ?_; rintro e w' ⟨rfl, rfl⟩))
                  go_round
                  case rel => exact ⟨k + 1, by omega, by go_num, good_next hG hg⟩
                  case measure => simp [intOf]; omega
                · have a3' : ((s[k].toNat : Int) != 45) = true := by simpa using a3
                  have hg := Lib.hid (show goodB s k = false by unfold goodB; rw [← E.out, a1', a2']; simp; omega)
                  clear a3
                  go_wp2_with (first | (go_at_call 53; refine (isSmall_any _ _).mono ?_; rintro e w' ⟨rfl, rfl⟩) | (go_at_call 54; refine (isDigit_any _ _).mono ?_; rintro e w' ⟨rfl, rfl⟩))
                  go_ret
                  exact says_no (fun hP => by have := hP.2 k hlt; rw [hg.out] at this; cases this)
          · go_wp2_with (first | (go_at_call 53; refine (isSmall_any _ _).mono ?_; rintro e w' ⟨rfl, rfl⟩) | (go_at_call 54; refine (isDigit_any _ _).mono ?_; rintro e w' ⟨rfl, rfl⟩))
            go_ret
            exact says_yes ⟨⟨H1.out, H2.out⟩, fun j hj => hG.out j (by omega)⟩
      · have hb' : smB (s[0].toNat : Int) = false := by simpa using hb
        have HB := Lib.hid (show goodB s 0 = false by unfold goodB; rw [← E0.out, hb']; rfl)
        clear hb
        go_enter Try.func34, Try.ntmps34
        go_wp2_with (first | (go_at_call 53; refine (isSmall_any _ _).mono ?_; rintro e w' ⟨rfl, rfl⟩) | (go_at_call 54; refine (isDigit_any _ _).mono ?_; rintro e w' ⟨rfl, rfl⟩))
        go_ret
        exact says_no (fun hP => by have := hP.2 0 hlt0; rw [HB.out] at this; cases this)
    · go_enter Try.func34, Try.ntmps34
      go_wp2_with (first | (go_at_call 53; refine (isSmall_any _ _).mono ?_; rintro e w' ⟨rfl, rfl⟩) | (go_at_call 54; refine (isDigit_any _ _).mono ?_; rintro e w' ⟨rfl, rfl⟩))
      go_ret
      exact says_no (fun hP => by have := hP.1; omega)
  · go_enter Try.func34, Try.ntmps34
    go_wp2_with (first | (go_at_call 53; refine (isSmall_any _ _).mono ?_; rintro e w' ⟨rfl, rfl⟩) | (go_at_call 54; refine (isDigit_any _ _).mono ?_; rintro e w' ⟨rfl, rfl⟩))
    go_ret
    exact says_no (fun hP => by have := hP.1; omega)

end Go.Proofs.Ytlpdgnhlhopmjaa
namespace Go.Proofs.Ytlpdgnhlhopmjaa
open Go.RowKit
set_option linter.unusedSimpArgs false
set_option linter.unusedVariables false

theorem landed_any (w : World) : Calls Try.prog 14 #[] w fun e w' => e = .returned (.bool true) ∧ w = w' := by
  go_enter Try.func14, Try.ntmps14
  go_wp2_with fail
  refine (isName_any _ _ (by decide)).mono ?_
  rintro e w1 ⟨b, rfl, hb, rfl⟩
  have hn : NameP ⟨#[97]⟩ := ⟨⟨by decide, by decide⟩, fun k hk => by
    obtain rfl : k = 0 := by have : (ByteArray.mk #[97]).size = 1 := rfl; omega
    decide⟩
  obtain rfl : b = true := hb.2 hn
  go_wp2_with fail
  go_ret
  exact ⟨rfl, rfl⟩

end Go.Proofs.Ytlpdgnhlhopmjaa
namespace Go.Proofs.Ytlpdgnhlhopmjaa
open Go.ChangeShapes Go.WideShapes Go.ChangeAt Go.RowKit Go.Joins
open Go.ChangeMaps (open_string shut_string)
set_option linter.unusedVariables false

theorem own : ownKnob Try.prog.godebug = none := by kernel_rfl
theorem laidOut : laidOutB Try.prog = true := by kernel_rfl
theorem cellsBits : Try.prog.cellsOf 40 = 3 := by kernel_rfl
theorem cellsBool : Try.prog.cellsOf 4 = 1 := by kernel_rfl

/-- A slice of bools that came in: nil; or its cells hold what B tells. -/
def IsBools (w : World) (a : Option Addr) (len cap : Nat) (B : Nat → Bool) : Prop :=
  (a = none ∧ len = 0 ∧ cap = 0) ∨ ∃ x, a = some x ∧ ∀ i, i < len → w.cell? (x.add i) = some (.bool (B i))

theorem isBools_cells {w : World} {a : Option Addr} {len cap : Nat} {B : Nat → Bool} (h : IsBools w a len cap B) (hl : 1 ≤ len) :
    ∃ pb po, a = some ⟨pb, po, none⟩ ∧ ∀ j, j < len → w.cell? ⟨pb, po + j, none⟩ = some (.bool (B j)) := by
  rcases h with ⟨_, h0, _⟩ | ⟨⟨pb, po, spot⟩, rfl, hcell⟩
  · omega
  · have hspot : spot = none := by simpa [Addr.add] using World.cell?_spot (hcell 0 (by omega))
    subst hspot
    exact ⟨pb, po, rfl, fun j hj => by have := hcell j hj; rwa [Addr.add_lit] at this⟩

theorem isBools_later {w w' : World} {a : Option Addr} {len cap : Nat} {B : Nat → Bool} (h : IsBools w a len cap B) (hb : Below w.heap.size w w') : IsBools w' a len cap B := by
  rcases h with h | ⟨x, h1, h2⟩
  · exact .inl h
  · exact .inr ⟨x, h1, fun i hi => (hb.cell (World.block_lt_of_cell? _ _ (h2 i hi))).trans (h2 i hi)⟩

end Go.Proofs.Ytlpdgnhlhopmjaa
namespace Go.Proofs.Ytlpdgnhlhopmjaa
open Go.RowKit
set_option linter.unusedSimpArgs false
set_option linter.unusedVariables false

/-- A box is in a page of W by H. -/
def InP (X Y bw bh : Int) (W H : Int) : Prop := (0 ≤ X ∧ X ≤ W - 1) ∧ (0 ≤ Y ∧ Y ≤ H - 1) ∧ (1 ≤ bw ∧ bw ≤ W - X) ∧ (1 ≤ bh ∧ bh ≤ H - Y)

end Go.Proofs.Ytlpdgnhlhopmjaa
namespace Go.Proofs.Ytlpdgnhlhopmjaa
open Go.RowKit
set_option linter.unusedSimpArgs false
set_option linter.unusedVariables false
attribute [local go_sem ↓] Go.wp_at_zero Go.wp_at_succ

theorem owns_shape {w : World} {base : Nat} {e : TypeId} {size : Nat} {v : Value} {n : Nat} {xs : List Value} (h : w.ownsRow base e size v n xs) : ∃ a l c, v = .slice a l c := by
  rcases h.2 with ⟨h0, _⟩ | ⟨g, cap, cur, h0, _⟩
  · exact ⟨_, _, _, h0⟩
  · exact ⟨_, _, _, h0⟩

end Go.Proofs.Ytlpdgnhlhopmjaa
namespace Go.Proofs.Ytlpdgnhlhopmjaa
open Go.RowKit
set_option linter.unusedSimpArgs false
set_option linter.unusedVariables false

theorem mask_nat (a : Int) (m : Nat) (hm : m < 4294967296) : ∃ A : Nat, A ≤ m ∧ bits .and .i64 a (m : Int) = (A : Int) := by
  refine ⟨(BitVec.ofInt 64 a).toNat &&& m, Nat.and_le_right, ?_⟩
  have hle : (BitVec.ofInt 64 a).toNat &&& m ≤ m := Nat.and_le_right
  show IntKind.i64.wrap ((BitVec.ofInt 64 a &&& BitVec.ofInt 64 (m : Int)).toNat : Int) = _
  rw [BitVec.toNat_and, BitVec.ofInt_natCast, BitVec.toNat_ofNat, Nat.mod_eq_of_lt (by omega)]
  exact IntWalk.i64_in _ (by omega)

end Go.Proofs.Ytlpdgnhlhopmjaa
namespace Go.Proofs.Ytlpdgnhlhopmjaa
open Go.RowKit
set_option linter.unusedSimpArgs false
set_option linter.unusedVariables false

set_option maxRecDepth 100000 in
theorem equalBool_true (g1 o1 g2 o2 n c1 c2 : Nat) (z : Nat → Bool) (w : World) (hn : n ≤ 100000000)
    (h1 : ∀ j, j < n → w.cell? ⟨g1, o1 + j, none⟩ = some (.bool (z j))) (h2 : ∀ j, j < n → w.cell? ⟨g2, o2 + j, none⟩ = some (.bool (z j))) :
    Calls Try.prog 55 #[.slice (some ⟨g1, o1, none⟩) n c1, .slice (some ⟨g2, o2, none⟩) n c2] w fun e w' => e = .returned (.bool true) ∧ ∃ q, w' = w.drewN q := by
  have H1 := Lib.hid h1
  have H2 := Lib.hid h2
  clear h1 h2
  go_enter Try.func55, Try.ntmps55
  go_wp2
  go_loopw [13] (fun i wr => ∃ k q : Nat, k ≤ n ∧ i = .int .i64 k ∧ wr = w.drewN q) (fun i _ => n - (intOf i).toNat)
  case atStart => exact ⟨0, 0, Nat.zero_le _, rfl, rfl⟩
  case round =>
    obtain ⟨k, q, hk, rfl, rfl⟩ := hrel
    by_cases hlt : k < n
    · have e1 := H1.out k hlt
      have e2 := H2.out k hlt
      generalize z k = x at e1 e2
      have i1 : (k : Int) < (n : Int) := by omega
      have i0 : (0 : Int) ≤ (k : Int) := by omega
      go_wp2
      go_quiet (fail)
      go_wp2
      go_roundw
      case rel => exact ⟨k + 1, _, by omega, by go_num, rfl⟩
      case measure => simp [intOf]; omega
    · go_wp2
      go_ret
      exact ⟨rfl, q, rfl⟩

end Go.Proofs.Ytlpdgnhlhopmjaa
namespace Go.Proofs.Ytlpdgnhlhopmjaa
open Go.RowKit
set_option linter.unusedSimpArgs false
set_option linter.unusedVariables false
attribute [local go_sem ↓] Go.wp_at_zero Go.wp_at_succ

theorem sameBits_true (W H : Int) (g1 o1 g2 o2 n c1 c2 : Nat) (z : Nat → Bool) (w : World) (hn : n ≤ 100000000)
    (h1 : ∀ j, j < n → w.cell? ⟨g1, o1 + j, none⟩ = some (.bool (z j))) (h2 : ∀ j, j < n → w.cell? ⟨g2, o2 + j, none⟩ = some (.bool (z j))) :
    Calls Try.prog 40 #[.agg #[.int .i64 W, .int .i64 H, .slice (some ⟨g1, o1, none⟩) n c1], .agg #[.int .i64 W, .int .i64 H, .slice (some ⟨g2, o2, none⟩) n c2]] w fun e w' => e = .returned (.bool true) ∧ Below w.heap.size w w' := by
  have HE := Lib.hid (equalBool_true g1 o1 g2 o2 n c1 c2 z ((w.alloc (.cells #[.int .i64 W, .int .i64 H, .slice (some ⟨g1, o1, none⟩) n c1] 40)).alloc (.cells #[.int .i64 W, .int .i64 H, .slice (some ⟨g2, o2, none⟩) n c2] 40)) hn
    (fun j hj => cell_later (below_alloc (new_below _ _) _) (h1 j hj)) (fun j hj => cell_later (below_alloc (new_below _ _) _) (h2 j hj)))
  clear h1 h2
  go_enter Try.func40, Try.ntmps40
  go_wp2_with (go_at_call 55; refine HE.out.mono ?_; rintro e w1 ⟨rfl, q, rfl⟩)
  go_ret
  exact ⟨rfl, below_drewN (below_alloc (new_below _ _) _) q⟩

end Go.Proofs.Ytlpdgnhlhopmjaa
namespace Go.Proofs.Ytlpdgnhlhopmjaa
open Go.RowKit
set_option linter.unusedSimpArgs false
set_option linter.unusedVariables false

instance (X Y bw bh W H : Int) : Decidable (InP X Y bw bh W H) := by unfold InP; infer_instance

/-- The error of a cut: of the page, else of the box. -/
def cutErr (a b : Int) (n : Nat) (X Y bw bh : Int) : Int := if pageErr a b n = 0 then (if InP X Y bw bh a b then 0 else 13) else pageErr a b n

theorem owns_pageB {w : World} {base : Nat} {v : Value} {N bw : Nat} {f : Nat → Nat → Bool} (h : w.ownsRow base 4 1 v N ((places bw f N).map Value.bool)) (hN : 1 ≤ N) :
    ∃ g c, v = .slice (some ⟨g, 0, none⟩) N c ∧ base ≤ g ∧ ∀ j, j < N → w.cell? ⟨g, 0 + j, none⟩ = some (.bool (f (j % bw) (j / bw))) := by
  rcases h.2 with ⟨_, h0⟩ | ⟨g, c, cur, rfl, hg, _⟩
  · omega
  · exact ⟨g, c, rfl, hg, fun j hj => by rw [Nat.zero_add, h.cellAt j (by omega)]; simp [places, List.getElem?_range hj]⟩

/-- What a cut is, in memory: nothing with an error; else the places of the box. -/
def CutIs (a b : Int) (n : Nat) (X Y bw bh : Int) (z : Nat → Bool) (B : Nat) (w : World) (i j : Int) (sl : Option Addr) (n' c' : Nat) : Prop :=
  (cutErr a b n X Y bw bh ≠ 0 ∧ i = 0 ∧ j = 0 ∧ sl = none ∧ n' = 0 ∧ c' = 0) ∨
  (cutErr a b n X Y bw bh = 0 ∧ i = bw ∧ j = bh ∧ n' = bw.toNat * bh.toNat ∧ ∃ g, B ≤ g ∧ sl = some ⟨g, 0, none⟩ ∧ ∀ k, k < n' → w.cell? ⟨g, 0 + k, none⟩ = some (.bool (z ((Y.toNat + k / bw.toNat) * a.toNat + X.toNat + k % bw.toNat))))

theorem CutIs.later {a b : Int} {n : Nat} {X Y bw bh : Int} {z : Nat → Bool} {B : Nat} {w w' : World} {i j : Int} {sl : Option Addr} {n' c' : Nat} (h : CutIs a b n X Y bw bh z B w i j sl n' c') (hb : Below w.heap.size w w') : CutIs a b n X Y bw bh z B w' i j sl n' c' := by
  rcases h with h | ⟨h1, h2, h3, h4, g, h5, h6, h7⟩
  · exact .inl h
  · exact .inr ⟨h1, h2, h3, h4, g, h5, h6, fun k hk => cell_later hb (h7 k hk)⟩
end Go.Proofs.Ytlpdgnhlhopmjaa
namespace Go.Proofs.Ytlpdgnhlhopmjaa
open Go.RowKit
set_option linter.unusedSimpArgs false
set_option linter.unusedVariables false

/-- The ink of a fitted page at a place. -/
def fitB (B : Nat → Bool) (n w x y : Nat) : Bool := if n = 0 then false else B ((y * w + x) % n)

set_option maxHeartbeats 800000 in
theorem fit1_any (x y W n gb wb : Nat) (s : Option Addr) (c : Nat) (B : Nat → Bool) (w : World) (hW : W ≤ 32) (hx : x < W) (hy : y < 32) (hn : n ≤ 9223372036854775807) (hs : IsBools w s n c B)
    (h2 : w.cell? ⟨gb, 2, none⟩ = some (.slice s n c)) (h3 : w.cell? ⟨wb, 0, none⟩ = some (.int .i64 W)) :
    Calls Try.prog 44 #[.int .i64 x, .int .i64 y, .pointer (some ⟨gb, 0, none⟩), .pointer (some ⟨wb, 0, none⟩)] w fun e w' => e = .returned (.bool (fitB B n W x y)) ∧ Below w.heap.size w w' := by
  by_cases h0 : n = 0
  · subst h0
    go_enter Try.func44, Try.ntmps44
    go_wp2
    go_quiet (fail)
    go_wp2
    go_ret
    exact ⟨rfl, below_drewN (Below.refl _ _) _⟩
  · obtain ⟨pb, po, rfl, hc⟩ := isBools_cells hs (by omega)
    have hlt := Nat.mod_lt (y * W + x) (show 0 < n by omega)
    have hcell := hc _ hlt
    have hN := Nat.mul_le_mul (show y ≤ 32 by omega) hW
    have x0 : (0 : Int) ≤ (y : Int) * (W : Int) := Int.mul_nonneg (by omega) (by omega)
    have x1 : (y : Int) * (W : Int) ≤ 1024 := by rw [← Int.natCast_mul]; omega
    have hm : ((y : Int) * (W : Int) + (x : Int)) % (n : Int) = (((y * W + x) % n : Nat) : Int) := by simp [Int.natCast_mul]
    have hF := Lib.hid (show fitB B n W x y = B ((y * W + x) % n) by unfold fitB; rw [if_neg h0])
    have h1 : 1 ≤ n := by omega
    obtain ⟨q, hq⟩ : ∃ q, q = (y * W + x) % n := ⟨_, rfl⟩
    rw [← hq] at hcell hm hlt hF
    obtain ⟨p, hp⟩ : ∃ p, p = B q := ⟨_, rfl⟩
    rw [← hp] at hcell hF
    have e0 : 0 < n := by omega
    have e1 : decide (0 < n) = true := decide_eq_true e0
    have e2 : decide ((0 : Int) < (n : Int)) = true := decide_eq_true (by omega)
    have HQ := Lib.hid hq
    have HP := Lib.hid hp
    clear hq hp hN hc hs h0
    go_enter Try.func44, Try.ntmps44
    go_wp2
    go_quiet (fail)
    go_wp2
    go_ret
    exact ⟨by rw [hF.out]; rfl, below_drewN (Below.refl _ _) _⟩

/-- What fit returns: a right page of at most 32 by 32 pixels. -/
def FittedB (w : World) (e : Ending) (w' : World) : Prop :=
  ∃ (W H g c : Nat) (z : Nat → Bool), e = .returned (.agg #[.int .i64 W, .int .i64 H, .slice (some ⟨g, 0, none⟩) (W * H) c]) ∧ (1 ≤ W ∧ W ≤ 32 ∧ 1 ≤ H ∧ H ≤ 32) ∧
    (∀ j, j < W * H → w'.cell? ⟨g, 0 + j, none⟩ = some (.bool (z j))) ∧ w.heap.size ≤ g ∧ Below w.heap.size w w'

set_option maxHeartbeats 800000 in
set_option maxRecDepth 100000 in
theorem fit_any (a b : Int) (s : Option Addr) (n c : Nat) (B : Nat → Bool) (w : World) (hn : n ≤ 9223372036854775807) (hs : IsBools w s n c B) :
    Calls Try.prog 19 #[.agg #[.int .i64 a, .int .i64 b, .slice s n c]] w (FittedB w) := by
  have hmf : ∀ (fn : Fn) (first cap : Array Value) (w : World), (Instr.makeFunc fn first cap).run Try.prog w = .ok (.func fn first cap) w := fun _ _ _ _ => rfl
  obtain ⟨A, hA, eA⟩ := mask_nat a 31 (by decide)
  obtain ⟨C, hC, eC⟩ := mask_nat b 31 (by decide)
  have eA' : bits .and .i64 a 31 = (A : Int) := eA
  have eC' : bits .and .i64 b 31 = (C : Int) := eC
  obtain ⟨W, hW⟩ : ∃ W : Nat, (1 : Int) + (A : Int) = (W : Int) := ⟨1 + A, by omega⟩
  obtain ⟨H, hH⟩ : ∃ H : Nat, (1 : Int) + (C : Int) = (H : Int) := ⟨1 + C, by omega⟩
  have bW : 1 ≤ W ∧ W ≤ 32 := by omega
  have bH : 1 ≤ H ∧ H ≤ 32 := by omega
  have hN := Nat.mul_le_mul bW.2 bH.2
  have HS := Lib.hid hs
  have HN := Lib.hid hN
  clear hs eA eC hN
  go_enter Try.func19, Try.ntmps19
  go_wp2_with fail
  go_region
  go_wp2_with fail
  obtain ⟨w1, hw1⟩ : ∃ w1, w1 = (((w.alloc (.cells #[.int .i64 a, .int .i64 b, .slice s n c] 40)).alloc (.cells #[.int .i64 0, .int .i64 0, .slice none 0 0] 40)).alloc (.cells #[.int .i64 W] 3)).drew := ⟨_, rfl⟩
  have B1 : Below w.heap.size w w1 := by rw [hw1]; exact (below_alloc (below_alloc (new_below _ _) _) _).drew
  have q2 : w1.cell? ⟨w.heap.size, 2, none⟩ = some (.slice s n c) := by rw [hw1]; go_simp
  have q3 : w1.cell? ⟨w.heap.size + 1 + 1, 0, none⟩ = some (.int .i64 W) := by rw [hw1]; go_simp
  have qb : w1.heap[w.heap.size + 1]? = some (.cells #[.int .i64 0, .int .i64 0, .slice none 0 0] 40 (0, 0)) := by
    rw [hw1, (show ∀ u : World, u.drew.heap = u.heap from fun _ => rfl), Below.heap_alloc _ _ _ (by simp)]
    simpa using heap_alloc_new (w.alloc (.cells #[.int .i64 a, .int .i64 b, .slice s n c] 40)) (.cells #[.int .i64 0, .int .i64 0, .slice none 0 0] 40)
  rw [← hw1]
  clear hw1
  have LQ := Lib.hid (Array.getElem?_eq_some_iff.1 qb).1
  refine (made_any W H 44 _ (fitB B n W) w1 (by omega) (by omega) (by omega) (by have := HN.out; omega) (Go.Proofs.enters_of Try.func44 (by kernel_rfl) rfl) ?_).mono ?_
  · intro x y wx hx hy hbx
    exact fit1_any x y W n w.heap.size (w.heap.size + 1 + 1) s c B wx (by omega) hx (by omega) hn (isBools_later HS.out (below_step B1 hbx)) (cell_later hbx q2) (cell_later hbx q3)
  · rintro e w5 ⟨v, rfl, hown, hb5⟩
    have hpos := Nat.mul_pos bW.1 bH.1
    obtain ⟨g, cc, rfl, hg, hcell⟩ := owns_pageB hown hpos
    obtain ⟨j0, j1, j2, r0, r1, r2⟩ := block3 (below_block hb5 qb)
    have F := Lib.hid hcell
    have G := Lib.hid hb5
    have B2 := Lib.hid B1
    clear hown hb5 hcell hW hH eA' eC' q2 q3 B1
    go_wp2_with fail
    refine bodyPost_ret (v := .agg #[.int .i64 W, .int .i64 H, .slice (some ⟨g, 0, none⟩) (W * H) cc]) (by simp [results, Try.results19, go_sem, j0, j1, j2]) rfl ?_
    have hl := LQ.out
    refine ⟨W, H, g, cc, fun j => fitB B n W (j % W) (j / W), rfl, ⟨bW.1, bW.2, bH.1, bH.2⟩, ?_, Nat.le_trans B2.out.size hg, ?_⟩
    · intro j hj
      exact cell_far3 (by simp; omega) (F.out j hj)
    · exact below_far3 (below_step B2.out G.out) (by omega)

end Go.Proofs.Ytlpdgnhlhopmjaa
namespace Go.Proofs.Ytlpdgnhlhopmjaa
open Go.RowKit
set_option linter.unusedSimpArgs false
set_option linter.unusedVariables false

/-- 1 for ink. -/
def inkOne (b : Bool) : Int := if b then 1 else 0
theorem inkOne_bounds (b : Bool) : 0 ≤ inkOne b ∧ inkOne b ≤ 255 := by cases b <;> decide

theorem byInk1_any (W H x y gb pb po c : Nat) (z : Nat → Bool) (w : World) (hW : W ≤ 4000) (hH : H ≤ 4000) (hx : x < W) (hy : y < H)
    (h0 : w.cell? ⟨gb, 0, none⟩ = some (.int .i64 W)) (h2 : w.cell? ⟨gb, 2, none⟩ = some (.slice (some ⟨pb, po, none⟩) (W * H) c)) (hp : w.cell? ⟨pb, po + (y * W + x), none⟩ = some (.bool (z (y * W + x)))) :
    Calls Try.prog 57 #[.int .i64 x, .int .i64 y, .pointer (some ⟨gb, 0, none⟩)] w fun e w' => e = .returned (.int .i64 (inkOne (z (y * W + x)))) ∧ w = w' := by
  have hfit := row_fits hy (show x + 1 ≤ W by omega)
  have hN := Nat.mul_le_mul hW hH
  have x0 : (0 : Int) ≤ (y : Int) * (W : Int) := Int.mul_nonneg (by omega) (by omega)
  have x1 : (y : Int) * (W : Int) + (x : Int) < ((W * H : Nat) : Int) := by rw [← Int.natCast_mul]; omega
  have x3 : (y : Int) * (W : Int) + (x : Int) < (W : Int) * (H : Int) := by rw [← Int.natCast_mul, ← Int.natCast_mul]; omega
  have x2 : ((W * H : Nat) : Int) ≤ 16000000 := by omega
  obtain ⟨p, hpe⟩ : ∃ p, p = z (y * W + x) := ⟨_, rfl⟩
  rw [← hpe] at hp ⊢
  clear hfit hN hpe
  cases p
  · go_enter Try.func57, Try.ntmps57
    go_wp2
    go_ret
    exact ⟨rfl, rfl⟩
  · go_enter Try.func57, Try.ntmps57
    go_wp2
    go_ret
    exact ⟨rfl, rfl⟩

set_option maxRecDepth 100000 in
theorem byInk2_any (x y ab lb g : Nat) (c2 : Array Value) (su mn least : Int) (w : World)
    (eg : ∀ (args : Array Value) (W : World), (callFunc g args).run Try.prog W = .ok (.enter g args) W)
    (h0 : w.cell? ⟨ab, 0, none⟩ = some (.func (.func g) #[] c2)) (h1 : w.cell? ⟨lb, 0, none⟩ = some (.int .i64 least))
    (hc : Calls Try.prog g (#[.int .i64 x, .int .i64 y] ++ c2) w fun e w' => e = .returned (.tuple #[.int .i64 su, .int .i64 mn]) ∧ Below w.heap.size w w') :
    Calls Try.prog 58 #[.int .i64 x, .int .i64 y, .pointer (some ⟨ab, 0, none⟩), .pointer (some ⟨lb, 0, none⟩)] w fun e w' => e = .returned (.bool (decide (least ≤ su))) ∧ Below w.heap.size w w' := by
  have HC := Lib.hid hc
  clear hc
  by_cases hd : least ≤ su
  · have HD := Lib.hid hd
    go_enter Try.func58, Try.ntmps58
    go_wp2_with (go_at_fn g; refine HC.out.mono ?_; rintro e w1 ⟨rfl, hb⟩; have k1 := cell_later hb h1)
    go_ret
    exact ⟨ret_bool (by simp [HD.out]), hb⟩
  · have HD := Lib.hid hd
    go_enter Try.func58, Try.ntmps58
    go_wp2_with (go_at_fn g; refine HC.out.mono ?_; rintro e w1 ⟨rfl, hb⟩; have k1 := cell_later hb h1)
    go_ret
    exact ⟨ret_bool (by simp [HD.out]), hb⟩

theorem byInk_badRadius (a b r least : Int) (p : Option Addr) (n c : Nat) (w : World) (h : pageErr a b n = 0) (hr : ¬ (0 ≤ r ∧ r ≤ 50)) :
    Calls Try.prog 45 #[.agg #[.int .i64 a, .int .i64 b, .slice p n c], .int .i64 r, .int .i64 least] w fun e w' => e = .returned (.tuple #[.agg #[.int .i64 0, .int .i64 0, .slice none 0 0], .int .i64 3]) ∧ Below w.heap.size w w' := by
  have HR := Lib.hid hr
  clear hr
  go_enter Try.func45, Try.ntmps45
  go_wp2_with (first | (go_at_call 56; refine (checkBits_any _ _ _ _ _ _).mono ?_; rintro e w' ⟨rfl, rfl⟩) | (go_at_call 25; refine (outside_yes _ _ _ _ HR.out).mono ?_; rintro e w' ⟨rfl, rfl⟩))
  refine bodyPost_ret (v := .tuple #[.agg #[.int .i64 0, .int .i64 0, .slice none 0 0], .int .i64 3]) (by simp [results, Try.results45, go_sem]) rfl ⟨rfl, below_alloc (below_alloc (below_alloc (new_below _ _) _) _) _⟩

set_option maxHeartbeats 800000 in
set_option maxRecDepth 100000 in
theorem byInk_ok (W H pb po c r : Nat) (least : Int) (z : Nat → Bool) (w : World) (he : sizeErr W H = 0) (hr : r ≤ 50)
    (hp : ∀ j, j < W * H → w.cell? ⟨pb, po + j, none⟩ = some (.bool (z j))) :
    Calls Try.prog 45 #[.agg #[.int .i64 W, .int .i64 H, .slice (some ⟨pb, po, none⟩) (W * H) c], .int .i64 r, .int .i64 least] w fun e w' =>
      ∃ v, e = .returned (.tuple #[.agg #[.int .i64 W, .int .i64 H, v], .int .i64 0]) ∧ w'.ownsRow w.heap.size 4 1 v (W * H) ((places W (fun x y => decide (least ≤ squareSum (fun j => inkOne (z j)) W H r x y)) (W * H)).map Value.bool) ∧ Below w.heap.size w w' := by
  have hmf : ∀ (fn : Fn) (first cap : Array Value) (w : World), (Instr.makeFunc fn first cap).run Try.prog w = .ok (.func fn first cap) w := fun _ _ _ _ => rfl
  obtain ⟨⟨a1, a2, a3, a4⟩, a5, a6⟩ := sizeErr_zero he
  have hpe : pageErr W H (W * H) = 0 := by unfold pageErr; rw [if_pos he, if_pos (by simp [Int.natCast_mul])]
  have hN : W * H ≤ 1048576 := by rw [← Int.natCast_mul] at a6; omega
  clear a5 a6 he
  have HC := Lib.hid hp
  clear hp
  go_enter Try.func45, Try.ntmps45
  go_wp2_with (first | (go_at_call 56; refine (checkBits_any _ _ _ _ _ _).mono ?_; rintro e w' ⟨rfl, rfl⟩) | (go_at_call 25; refine (outside_no _ _ _ _ (by omega)).mono ?_; rintro e w' ⟨rfl, rfl⟩))
  obtain ⟨w3, hw3⟩ : ∃ w3, w3 = (((w.alloc (.cells #[.int .i64 W, .int .i64 H, .slice (some ⟨pb, po, none⟩) (W * H) c] 40)).alloc (.cells #[.int .i64 least] 3)).alloc (.cells #[.int .i64 0, .int .i64 0, .slice none 0 0] 40)).alloc (.cells #[.int .i64 W, .int .i64 H, .slice (some ⟨pb, po, none⟩) (W * H) c] 40) := ⟨_, rfl⟩
  have B3 : Below w.heap.size w w3 := by rw [hw3]; exact below_alloc (below_alloc (below_alloc (new_below _ _) _) _) _
  have q0 : w3.cell? ⟨w.heap.size, 0, none⟩ = some (.int .i64 W) := by rw [hw3]; go_simp
  have q1 : w3.cell? ⟨w.heap.size, 1, none⟩ = some (.int .i64 H) := by rw [hw3]; go_simp
  have q2 : w3.cell? ⟨w.heap.size, 2, none⟩ = some (.slice (some ⟨pb, po, none⟩) (W * H) c) := by rw [hw3]; go_simp
  have q3 : w3.cell? ⟨w.heap.size + 1, 0, none⟩ = some (.int .i64 least) := by rw [hw3]; go_simp
  have qb : w3.heap[w.heap.size + 1 + 1]? = some (.cells #[.int .i64 0, .int .i64 0, .slice none 0 0] 40 (0, 0)) := by
    rw [hw3, Below.heap_alloc _ _ _ (by simp)]
    simpa using heap_alloc_new ((w.alloc (.cells #[.int .i64 W, .int .i64 H, .slice (some ⟨pb, po, none⟩) (W * H) c] 40)).alloc (.cells #[.int .i64 least] 3)) (.cells #[.int .i64 0, .int .i64 0, .slice none 0 0] 40)
  rw [← hw3]
  clear hw3
  have lt1 := Lib.hid (Array.getElem?_eq_some_iff.1 qb).1
  refine (around_any W H r 57 _ (fun j => inkOne (z j)) w3 (fun j => inkOne_bounds _) (by omega) (by omega) (by omega) hN (by omega) (Go.Proofs.enters_of Try.func57 (by kernel_rfl) rfl) ?_).mono ?_
  · intro x y W' hx hy hb
    have hfit := row_fits hy (show x + 1 ≤ W by omega)
    refine (byInk1_any W H x y w.heap.size pb po c z W' (by omega) (by omega) hx hy (cell_later hb q0) (cell_later hb q2) (cell_later hb (cell_later B3 (HC.out _ (by omega))))).mono ?_
    rintro e wy ⟨rfl, rfl⟩
    exact ⟨rfl, Below.refl _ _⟩
  · rintro e w1 ⟨c2, rfl, hb1, hc2⟩
    have k0 := cell_later hb1 q0
    have k1 := cell_later hb1 q1
    have k3 := cell_later hb1 q3
    have kb := below_block hb1 qb
    have B1 := Lib.hid (below_step B3 hb1)
    have HC2 := Lib.hid hc2
    have HB1 := Lib.hid hb1
    have l0 := World.block_lt_of_cell? _ _ k0
    simp only at l0
    clear q0 q1 q2 q3 qb hb1 hc2
    go_wp2_with fail
    obtain ⟨w4, hw4⟩ : ∃ w4, w4 = w1.alloc (.cells #[.func (.func 51) #[] c2] 50) := ⟨_, rfl⟩
    have B4 : Below w1.heap.size w1 w4 := by rw [hw4]; exact new_below _ _
    have n0 : w4.cell? ⟨w1.heap.size, 0, none⟩ = some (.func (.func 51) #[] c2) := by rw [hw4]; go_simp
    have m0 := cell_later B4 k0
    have m1 := cell_later B4 k1
    have m3 := cell_later B4 k3
    have mb := below_block B4 kb
    rw [← hw4]
    clear hw4 k0 k1 k3 kb
    refine (fillBool_any W H 58 _ (fun x y => decide (least ≤ squareSum (fun j => inkOne (z j)) W H r x y)) w4 (by omega) (by omega) (by omega) (by omega) (Go.Proofs.enters_of Try.func58 (by kernel_rfl) rfl) ?_).mono ?_
    · intro x y wx hx hy hbx
      exact byInk2_any x y w1.heap.size (w.heap.size + 1) 51 c2 _ _ least wx (Go.Proofs.enters_of Try.func51 (by kernel_rfl) rfl) (cell_later hbx n0) (cell_later hbx m3) (HC2.out x y wx hx hy (below_step B4 hbx))
    · rintro e w5 ⟨v, rfl, hown, hb5⟩
      obtain ⟨j0, j1, j2, r0, r1, r2⟩ := block3 (below_block hb5 mb)
      obtain ⟨va, vn, vc, rfl⟩ := owns_shape hown
      have k0 := cell_later hb5 m0
      have k1 := cell_later hb5 m1
      have F := Lib.hid hown
      have G := Lib.hid hb5
      have L1 := Lib.hid (Nat.lt_of_lt_of_le lt1.out (Nat.le_trans HB1.out.size B4.size))
      have S1 := Lib.hid B4.size
      have S2 := Lib.hid B4
      clear hown hb5 m0 m1 m3 mb n0 B4 B3
      go_wp2_with fail
      refine bodyPost_ret (v := .tuple #[.agg #[.int .i64 W, .int .i64 H, .slice va vn vc], .int .i64 0]) (by simp [results, Try.results45, go_sem, j0, j1, j2]) rfl ⟨_, rfl, owns_far3 F.out L1.out (Nat.le_trans B1.out.size S1.out), below_far3 (below_step (below_step B1.out S2.out) G.out) (by omega)⟩

end Go.Proofs.Ytlpdgnhlhopmjaa
namespace Go.Proofs.Ytlpdgnhlhopmjaa
set_option linter.unusedSimpArgs false
set_option linter.unusedVariables false

def rowSome (W H : Nat) (z : Nat → Bool) (j x0 : Int) : Nat → Bool
  | 0 => false
  | k + 1 => rowSome W H z j x0 k || atB W H z (x0 + (k : Int)) j
def rowAll (W H : Nat) (z : Nat → Bool) (j x0 : Int) : Nat → Bool
  | 0 => true
  | k + 1 => rowAll W H z j x0 k && atB W H z (x0 + (k : Int)) j
def sqSome (W H : Nat) (z : Nat → Bool) (y0 x0 : Int) (m : Nat) : Nat → Bool
  | 0 => false
  | k + 1 => sqSome W H z y0 x0 m k || rowSome W H z (y0 + (k : Int)) x0 m
def sqAll (W H : Nat) (z : Nat → Bool) (y0 x0 : Int) (m : Nat) : Nat → Bool
  | 0 => true
  | k + 1 => sqAll W H z y0 x0 m k && rowAll W H z (y0 + (k : Int)) x0 m

theorem rowSome_iff (W H : Nat) (z : Nat → Bool) (j x0 : Int) (m : Nat) : rowSome W H z j x0 m = true ↔ ∃ l : Nat, l < m ∧ atB W H z (x0 + (l : Int)) j = true := by
  induction m with
  | zero => simp [rowSome]
  | succ k ih =>
    simp only [rowSome, Bool.or_eq_true, ih]
    constructor
    · rintro (⟨l, h1, h2⟩ | h)
      · exact ⟨l, by omega, h2⟩
      · exact ⟨k, by omega, h⟩
    · rintro ⟨l, h1, h2⟩
      by_cases e : l = k
      · exact .inr (e ▸ h2)
      · exact .inl ⟨l, by omega, h2⟩

theorem rowAll_iff (W H : Nat) (z : Nat → Bool) (j x0 : Int) (m : Nat) : rowAll W H z j x0 m = true ↔ ∀ l : Nat, l < m → atB W H z (x0 + (l : Int)) j = true := by
  induction m with
  | zero => simp [rowAll]
  | succ k ih =>
    simp only [rowAll, Bool.and_eq_true, ih]
    constructor
    · rintro ⟨h, h'⟩ l hl
      by_cases e : l = k
      · exact e ▸ h'
      · exact h l (by omega)
    · exact fun h => ⟨fun l hl => h l (by omega), h k (by omega)⟩

theorem sqSome_iff (W H : Nat) (z : Nat → Bool) (y0 x0 : Int) (m n : Nat) : sqSome W H z y0 x0 m n = true ↔ ∃ k l : Nat, k < n ∧ l < m ∧ atB W H z (x0 + (l : Int)) (y0 + (k : Int)) = true := by
  induction n with
  | zero => simp [sqSome]
  | succ q ih =>
    simp only [sqSome, Bool.or_eq_true, ih, rowSome_iff]
    constructor
    · rintro (⟨k, l, h1, h2, h3⟩ | ⟨l, h2, h3⟩)
      · exact ⟨k, l, by omega, h2, h3⟩
      · exact ⟨q, l, by omega, h2, h3⟩
    · rintro ⟨k, l, h1, h2, h3⟩
      by_cases e : k = q
      · exact .inr ⟨l, h2, e ▸ h3⟩
      · exact .inl ⟨k, l, by omega, h2, h3⟩

theorem sqAll_iff (W H : Nat) (z : Nat → Bool) (y0 x0 : Int) (m n : Nat) : sqAll W H z y0 x0 m n = true ↔ ∀ k l : Nat, k < n → l < m → atB W H z (x0 + (l : Int)) (y0 + (k : Int)) = true := by
  induction n with
  | zero => simp [sqAll]
  | succ q ih =>
    simp only [sqAll, Bool.and_eq_true, ih, rowAll_iff]
    constructor
    · rintro ⟨h, h'⟩ k l hk hl
      by_cases e : k = q
      · exact e ▸ h' l hl
      · exact h k l (by omega) hl
    · exact fun h => ⟨fun k l hk hl => h k l (by omega) hl, fun l hl => h q l (by omega) hl⟩

/-- Whether some, whether all pixels of the square around (x, y) are ink. -/
def spreadB (W H : Nat) (z : Nat → Bool) (r x y : Nat) : Bool := sqSome W H z ((y : Int) - (r : Int)) ((x : Int) - (r : Int)) (2 * r + 1) (2 * r + 1)
def shrinkB (W H : Nat) (z : Nat → Bool) (r x y : Nat) : Bool := sqAll W H z ((y : Int) - (r : Int)) ((x : Int) - (r : Int)) (2 * r + 1) (2 * r + 1)

theorem atB_nat (W H : Nat) (z : Nat → Bool) (x y : Nat) (hx : x < W) (hy : y < H) : atB W H z (x : Int) (y : Int) = z (y * W + x) := by
  unfold atB; rw [if_pos (by omega)]; simp
theorem atB_true {W H : Nat} {z : Nat → Bool} {x y : Int} (h : atB W H z x y = true) : ∃ i j : Nat, x = (i : Int) ∧ y = (j : Int) ∧ i < W ∧ j < H ∧ z (j * W + i) = true := by
  unfold atB at h
  split at h
  · exact ⟨x.toNat, y.toNat, by omega, by omega, by omega, by omega, h⟩
  · cases h

theorem spreadB_iff (W H : Nat) (z : Nat → Bool) (r x y : Nat) : spreadB W H z r x y = true ↔ ∃ i j : Nat, i < W ∧ j < H ∧ (x ≤ i + r ∧ i ≤ x + r) ∧ (y ≤ j + r ∧ j ≤ y + r) ∧ z (j * W + i) = true := by
  unfold spreadB
  rw [sqSome_iff]
  constructor
  · rintro ⟨k, l, hk, hl, h⟩
    obtain ⟨i, j, h1, h2, h3, h4, h5⟩ := atB_true h
    exact ⟨i, j, h3, h4, by omega, by omega, h5⟩
  · rintro ⟨i, j, h3, h4, h1, h2, h5⟩
    refine ⟨j + r - y, i + r - x, by omega, by omega, ?_⟩
    rw [show (x : Int) - (r : Int) + ((i + r - x : Nat) : Int) = (i : Int) by omega, show (y : Int) - (r : Int) + ((j + r - y : Nat) : Int) = (j : Int) by omega, atB_nat W H z i j h3 h4]
    exact h5

theorem shrinkB_iff (W H : Nat) (z : Nat → Bool) (r x y : Nat) : shrinkB W H z r x y = true ↔
    (r ≤ x ∧ x + r < W ∧ r ≤ y ∧ y + r < H) ∧ ∀ i j : Nat, (x ≤ i + r ∧ i ≤ x + r) → (y ≤ j + r ∧ j ≤ y + r) → z (j * W + i) = true := by
  unfold shrinkB
  rw [sqAll_iff]
  constructor
  · intro h
    obtain ⟨i1, j1, a1, a2, a3, a4, _⟩ := atB_true (h 0 0 (by omega) (by omega))
    obtain ⟨i2, j2, b1, b2, b3, b4, _⟩ := atB_true (h (2 * r) (2 * r) (by omega) (by omega))
    refine ⟨by omega, fun i j h1 h2 => ?_⟩
    have := h (j + r - y) (i + r - x) (by omega) (by omega)
    rw [show (x : Int) - (r : Int) + ((i + r - x : Nat) : Int) = (i : Int) by omega, show (y : Int) - (r : Int) + ((j + r - y : Nat) : Int) = (j : Int) by omega, atB_nat W H z i j (by omega) (by omega)] at this
    exact this
  · rintro ⟨h0, h⟩ k l hk hl
    rw [show (x : Int) - (r : Int) + (l : Int) = ((x - r + l : Nat) : Int) by omega, show (y : Int) - (r : Int) + (k : Int) = ((y - r + k : Nat) : Int) by omega, atB_nat W H z _ _ (by omega) (by omega)]
    exact h _ _ (by omega) (by omega)

theorem rowInk_bounds (z : Nat → Bool) (k n : Nat) : 0 ≤ rowSum (fun j => inkOne (z j)) k n ∧ rowSum (fun j => inkOne (z j)) k n ≤ n := by
  induction n with
  | zero => simp [rowSum]
  | succ n ih => simp only [rowSum]; unfold inkOne at ih ⊢; split <;> omega

theorem rectInk_bounds (z : Nat → Bool) (W y x nx n : Nat) : 0 ≤ rectSum (fun j => inkOne (z j)) W y x nx n ∧ rectSum (fun j => inkOne (z j)) W y x nx n ≤ ((nx * n : Nat) : Int) := by
  induction n with
  | zero => simp [rectSum]
  | succ n ih => have := rowInk_bounds z ((y + n) * W + x) nx; simp only [rectSum, Nat.mul_add, Nat.mul_one]; omega

theorem rowInk_pos (z : Nat → Bool) (k n : Nat) : 1 ≤ rowSum (fun j => inkOne (z j)) k n ↔ ∃ i, i < n ∧ z (k + i) = true := by
  induction n with
  | zero => simp [rowSum]
  | succ n ih =>
    have hb := rowInk_bounds z k n
    simp only [rowSum]
    constructor
    · intro h
      cases hz : z (k + n)
      · obtain ⟨i, h1, h2⟩ := ih.1 (by simp [inkOne, hz] at h; simpa [inkOne] using h)
        exact ⟨i, by omega, h2⟩
      · exact ⟨n, by omega, hz⟩
    · rintro ⟨i, h1, h2⟩
      by_cases e : i = n
      · subst e; simp only [inkOne, h2, if_true]; unfold inkOne at hb; omega
      · have := ih.2 ⟨i, by omega, h2⟩
        have hi := inkOne_bounds (z (k + n))
        omega

theorem rectInk_pos (z : Nat → Bool) (W y x nx n : Nat) : 1 ≤ rectSum (fun j => inkOne (z j)) W y x nx n ↔ ∃ j i, j < n ∧ i < nx ∧ z ((y + j) * W + x + i) = true := by
  induction n with
  | zero => simp [rectSum]
  | succ n ih =>
    have hb := rectInk_bounds z W y x nx n
    have hr := rowInk_bounds z ((y + n) * W + x) nx
    have hp := rowInk_pos z ((y + n) * W + x) nx
    simp only [rectSum]
    constructor
    · intro h
      by_cases h1 : 1 ≤ rectSum (fun j => inkOne (z j)) W y x nx n
      · obtain ⟨j, i, h2, h3, h4⟩ := ih.1 h1
        exact ⟨j, i, by omega, h3, h4⟩
      · obtain ⟨i, h2, h3⟩ := hp.1 (by omega)
        exact ⟨n, i, by omega, h2, h3⟩
    · rintro ⟨j, i, h2, h3, h4⟩
      by_cases e : j = n
      · subst e
        have := hp.2 ⟨i, h3, h4⟩
        omega
      · have := ih.2 ⟨j, i, by omega, h3, h4⟩
        omega

theorem rowInk_full (z : Nat → Bool) (k n : Nat) : (n : Int) ≤ rowSum (fun j => inkOne (z j)) k n ↔ ∀ i, i < n → z (k + i) = true := by
  induction n with
  | zero => simp [rowSum]
  | succ n ih =>
    have hb := rowInk_bounds z k n
    simp only [rowSum]
    constructor
    · intro h i hi
      cases hz : z (k + n)
      · simp only [inkOne, hz] at h hb
        simp at h
        omega
      · by_cases e : i = n
        · exact e ▸ hz
        · refine ih.1 ?_ i (by omega)
          simp only [inkOne, hz, if_true] at h hb ⊢
          omega
    · intro h
      have h1 := ih.2 (fun i hi => h i (by omega))
      have h2 : inkOne (z (k + n)) = 1 := by rw [h n (by omega)]; rfl
      omega

theorem rectInk_full (z : Nat → Bool) (W y x nx n : Nat) : ((nx * n : Nat) : Int) ≤ rectSum (fun j => inkOne (z j)) W y x nx n ↔ ∀ j i, j < n → i < nx → z ((y + j) * W + x + i) = true := by
  induction n with
  | zero => simp [rectSum]
  | succ n ih =>
    have hb := rectInk_bounds z W y x nx n
    have hr := rowInk_bounds z ((y + n) * W + x) nx
    have hp := rowInk_full z ((y + n) * W + x) nx
    simp only [rectSum, Nat.mul_add, Nat.mul_one]
    constructor
    · intro h j i hj hi
      by_cases e : j = n
      · subst e
        exact hp.1 (by omega) i hi
      · exact ih.1 (by omega) j i (by omega) hi
    · intro h
      have h1 := ih.2 (fun j i hj hi => h j i (by omega) hi)
      have h2 := hp.2 (fun i hi => h n i (by omega) hi)
      omega

theorem spread_sum (W H : Nat) (z : Nat → Bool) (r x y : Nat) (hx : x < W) (hy : y < H) : decide (1 ≤ squareSum (fun j => inkOne (z j)) W H r x y) = spreadB W H z r x y := by
  rw [Bool.eq_iff_iff, decide_eq_true_iff, spreadB_iff]
  unfold squareSum
  rw [rectInk_pos]
  constructor
  · rintro ⟨j, i, h1, h2, h3⟩
    exact ⟨x - r + i, y - r + j, by omega, by omega, by omega, by omega, by rw [← Nat.add_assoc]; exact h3⟩
  · rintro ⟨i, j, h1, h2, h3, h4, h5⟩
    exact ⟨j - (y - r), i - (x - r), by omega, by omega, by rw [show y - r + (j - (y - r)) = j by omega, Nat.add_assoc, show x - r + (i - (x - r)) = i by omega]; exact h5⟩

theorem shrink_sum (W H : Nat) (z : Nat → Bool) (r x y : Nat) (hx : x < W) (hy : y < H) : decide ((2 * (r : Int) + 1) * (2 * (r : Int) + 1) ≤ squareSum (fun j => inkOne (z j)) W H r x y) = shrinkB W H z r x y := by
  rw [Bool.eq_iff_iff, decide_eq_true_iff, shrinkB_iff]
  unfold squareSum
  obtain ⟨nx, hnx⟩ : ∃ nx, nx = min (x + r + 1) W - (x - r) := ⟨_, rfl⟩
  obtain ⟨ny, hny⟩ : ∃ ny, ny = min (y + r + 1) H - (y - r) := ⟨_, rfl⟩
  rw [← hnx, ← hny]
  have hb := rectInk_bounds z W (y - r) (x - r) nx ny
  have hf := rectInk_full z W (y - r) (x - r) nx ny
  have hN : (2 * (r : Int) + 1) * (2 * (r : Int) + 1) = (((2 * r + 1) * (2 * r + 1) : Nat) : Int) := by simp [Int.natCast_mul]
  rw [hN]
  constructor
  · intro h
    have hge : (2 * r + 1) * (2 * r + 1) ≤ nx * ny := by omega
    have e1 : nx = 2 * r + 1 := by
      apply Classical.byContradiction
      intro hne
      have h1 := Nat.mul_le_mul (show nx ≤ 2 * r by omega) (show ny ≤ 2 * r + 1 by omega)
      have h2 : (2 * r + 1) * (2 * r + 1) = 2 * r * (2 * r + 1) + (2 * r + 1) := by rw [Nat.add_mul (2 * r) 1, Nat.one_mul]
      omega
    have e2 : ny = 2 * r + 1 := by
      apply Classical.byContradiction
      intro hne
      have h1 := Nat.mul_le_mul (show nx ≤ 2 * r + 1 by omega) (show ny ≤ 2 * r by omega)
      have h2 : (2 * r + 1) * (2 * r + 1) = (2 * r + 1) * (2 * r) + (2 * r + 1) := by rw [Nat.mul_add (2 * r + 1) (2 * r) 1, Nat.mul_one]
      omega
    rw [e1, e2] at hf h
    have hall := hf.1 h
    refine ⟨by omega, fun i j h1 h2 => ?_⟩
    have := hall (j - (y - r)) (i - (x - r)) (by omega) (by omega)
    rw [show y - r + (j - (y - r)) = j by omega, Nat.add_assoc, show x - r + (i - (x - r)) = i by omega] at this
    exact this
  · rintro ⟨h0, h⟩
    have e1 : nx = 2 * r + 1 := by omega
    have e2 : ny = 2 * r + 1 := by omega
    rw [e1, e2] at hf ⊢
    exact hf.2 (fun j i hj hi => by rw [Nat.add_assoc]; exact h _ _ (by omega) (by omega))

/-- Shrunk and spread again there is no more ink; spread and shrunk again there is no less, away from the border. -/
theorem open_less (W H : Nat) (z : Nat → Bool) (r x y : Nat) (hx : x < W) (h : spreadB W H (fun k => shrinkB W H z r (k % W) (k / W)) r x y = true) : z (y * W + x) = true := by
  obtain ⟨i, j, h1, h2, h3, h4, h5⟩ := (spreadB_iff ..).1 h
  have em : (j * W + i) % W = i := by rw [Nat.add_comm, Nat.mul_comm, Nat.add_mul_mod_self_left, Nat.mod_eq_of_lt h1]
  have ed : (j * W + i) / W = j := by rw [Nat.add_comm, Nat.mul_comm, Nat.add_mul_div_left _ _ (by omega), Nat.div_eq_of_lt h1, Nat.zero_add]
  simp only [em, ed] at h5
  exact ((shrinkB_iff ..).1 h5).2 x y (by omega) (by omega)

theorem shut_more (W H : Nat) (z : Nat → Bool) (r x y : Nat) (hx : r ≤ x ∧ x + r < W) (hy : r ≤ y ∧ y + r < H) (h : z (y * W + x) = true) : shrinkB W H (fun k => spreadB W H z r (k % W) (k / W)) r x y = true := by
  refine (shrinkB_iff ..).2 ⟨by omega, fun i j h1 h2 => ?_⟩
  have em : (j * W + i) % W = i := by rw [Nat.add_comm, Nat.mul_comm, Nat.add_mul_mod_self_left, Nat.mod_eq_of_lt (by omega)]
  have ed : (j * W + i) / W = j := by rw [Nat.add_comm, Nat.mul_comm, Nat.add_mul_div_left _ _ (by omega), Nat.div_eq_of_lt (by omega), Nat.zero_add]
  simp only [em, ed]
  exact (spreadB_iff ..).2 ⟨x, y, by omega, by omega, by omega, by omega, h⟩

end Go.Proofs.Ytlpdgnhlhopmjaa
