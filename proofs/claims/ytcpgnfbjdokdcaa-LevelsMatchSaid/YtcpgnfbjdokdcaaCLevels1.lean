/-
  What levels_holds leans on: contracts of the functions that it calls.
-/
import Derived.Test.YtcpgnfbjdokdcaaRows
import Derived.WalkKit
import Derived.WalkSpells
import Derived.WalkLawsBesides
import Derived.Lib.Hide
import Derived.Deep.RegionHeld3
import Derived.Shelf.Abstract
import Derived.Deep.AppendLies
import Derived.Deep.DrawnRows
import Derived.Deep.RegionLaw
import Derived.Deep.QuietTactic
import Derived.BigQuiet
import Derived.ProofKit
import Derived.OpenShut
import Derived.ShutString
import Derived.ChangeOld
import Derived.Lib.SmallJoins
import Derived.Deep.Grids
import Derived.Deep.DeepCutAuto
import Derived.Lib.MinMax
import Derived.Deep.CutRange
import Derived.Laws.EntriesVeiled
import Derived.StillTailTactics
namespace Go.Proofs.Ytcpgnfbjdokdcaa
open Go.RowKit
set_option linter.unusedSimpArgs false
set_option linter.unusedVariables false

theorem ret_int {k : IntKind} {a b : Int} (h : a = b) : Ending.returned (.int k a) = .returned (.int k b) := by rw [h]
theorem ret_bool {a b : Bool} (h : a = b) : Ending.returned (.bool a) = .returned (.bool b) := by rw [h]

theorem outside_no (n a b : Int) (w : World) (h : a ≤ n ∧ n ≤ b) : Calls Try.prog 107 #[.int .i64 n, .int .i64 a, .int .i64 b] w fun r w' => r = .returned (.bool false) ∧ w = w' := by
  obtain ⟨h1, h2⟩ := h
  have h3 : ¬ n < a := by omega
  have h4 : ¬ b < n := by omega
  go_enter Try.func107, Try.ntmps107
  go_wp2
  go_ret
  exact ⟨rfl, rfl⟩
theorem outside_yes (n a b : Int) (w : World) (h : ¬ (a ≤ n ∧ n ≤ b)) : Calls Try.prog 107 #[.int .i64 n, .int .i64 a, .int .i64 b] w fun r w' => r = .returned (.bool true) ∧ w = w' := by
  by_cases h1 : n < a
  · clear h
    go_enter Try.func107, Try.ntmps107
    go_wp2
    go_ret
    exact ⟨rfl, rfl⟩
  · have h4 : b < n := by omega
    clear h
    go_enter Try.func107, Try.ntmps107
    go_wp2
    go_ret
    exact ⟨rfl, rfl⟩
/-- The error of a size. -/
def sizeErr (w h : Int) : Int := if w < 1 ∨ h < 1 ∨ 4000 < w ∨ 4000 < h then 3 else if 1048576 < w * h then 4 else 0

theorem mul_small {a b : Int} (ha : 1 ≤ a) (hb : 1 ≤ b) (ha' : a ≤ 4000) (hb' : b ≤ 4000) : 0 ≤ a * b ∧ a * b ≤ 16000000 := by
  refine ⟨Int.mul_nonneg (by omega) (by omega), ?_⟩
  have := Int.mul_le_mul ha' hb' (by omega) (by omega : (0:Int) ≤ 4000)
  omega

set_option maxRecDepth 100000 in
theorem checkSize_any (a b : Int) (w : World) : Calls Try.prog 91 #[.int .i64 a, .int .i64 b] w fun r w' => r = .returned (.int .i64 (sizeErr a b)) ∧ w = w' := by
  by_cases h1 : 1 ≤ a ∧ a ≤ 4000
  · have H1 := Lib.hid h1
    by_cases h2 : 1 ≤ b ∧ b ≤ 4000
    · have H2 := Lib.hid h2
      have hm := mul_small (by omega : 1 ≤ a) (by omega : 1 ≤ b) (by omega) (by omega)
      have hw : wrap64 (a * b) = a * b := by unfold wrap64; omega
      by_cases h5 : 1048576 < a * b
      · have HS := Lib.hid (show sizeErr a b = 4 by unfold sizeErr; rw [if_neg (by omega), if_pos h5])
        clear h1 h2
        go_enter Try.func91, Try.ntmps91
        go_wp2_with (first | (go_at_call 107; (with_reducible refine (outside_no a 1 4000 _ H1.out).mono ?_); rintro e w' ⟨rfl, rfl⟩) | (go_at_call 107; (with_reducible refine (outside_no b 1 4000 _ H2.out).mono ?_); rintro e w' ⟨rfl, rfl⟩))
        go_ret
        exact ⟨ret_int HS.out.symm, rfl⟩
      · have HS := Lib.hid (show sizeErr a b = 0 by unfold sizeErr; rw [if_neg (by omega), if_neg h5])
        clear h1 h2
        go_enter Try.func91, Try.ntmps91
        go_wp2_with (first | (go_at_call 107; (with_reducible refine (outside_no a 1 4000 _ H1.out).mono ?_); rintro e w' ⟨rfl, rfl⟩) | (go_at_call 107; (with_reducible refine (outside_no b 1 4000 _ H2.out).mono ?_); rintro e w' ⟨rfl, rfl⟩))
        go_ret
        exact ⟨ret_int HS.out.symm, rfl⟩
    · have H2 := Lib.hid h2
      have HS := Lib.hid (show sizeErr a b = 3 by unfold sizeErr; rw [if_pos (by omega)])
      clear h1 h2
      go_enter Try.func91, Try.ntmps91
      go_wp2_with (first | (go_at_call 107; (with_reducible refine (outside_no a 1 4000 _ H1.out).mono ?_); rintro e w' ⟨rfl, rfl⟩) | (go_at_call 107; (with_reducible refine (outside_yes b 1 4000 _ H2.out).mono ?_); rintro e w' ⟨rfl, rfl⟩))
      go_ret
      exact ⟨ret_int HS.out.symm, rfl⟩
  · have H1 := Lib.hid h1
    have HS := Lib.hid (show sizeErr a b = 3 by unfold sizeErr; rw [if_pos (by omega)])
    clear h1
    go_enter Try.func91, Try.ntmps91
    go_wp2_with (first | (go_at_call 107; (with_reducible refine (outside_yes a 1 4000 _ H1.out).mono ?_); rintro e w' ⟨rfl, rfl⟩))
    go_ret
    exact ⟨ret_int HS.out.symm, rfl⟩

end Go.Proofs.Ytcpgnfbjdokdcaa
namespace Go.Proofs.Ytcpgnfbjdokdcaa
open Go.RowKit
set_option linter.unusedSimpArgs false
set_option linter.unusedVariables false

theorem new_below (w : World) (o : Obj) : Below w.heap.size w (w.alloc o) := (Below.refl _ _).alloc (Nat.le_refl _) _
theorem below_step {w a b : World} (h : Below w.heap.size w a) (k : Below a.heap.size a b) : Below w.heap.size w b := h.trans (k.mono h.size)
theorem below_alloc {w a : World} (h : Below w.heap.size w a) (o : Obj) : Below w.heap.size w (a.alloc o) := h.alloc h.size o

theorem sizeErr_zero {a b : Int} (h : sizeErr a b = 0) : (1 ≤ a ∧ a ≤ 4000 ∧ 1 ≤ b ∧ b ≤ 4000) ∧ 0 ≤ a * b ∧ a * b ≤ 1048576 := by
  unfold sizeErr at h
  split at h
  · simp at h
  · split at h
    · simp at h
    · have := mul_small (by omega : 1 ≤ a) (by omega : 1 ≤ b) (by omega) (by omega)
      omega

/-- The error of a page: of its size, else of the number of its pixels. -/
def pageErr (a b : Int) (n : Nat) : Int := if sizeErr a b = 0 then (if (n : Int) = a * b then 0 else 2) else sizeErr a b

theorem check_any (a b : Int) (n : Nat) (w : World) : Calls Try.prog 92 #[.int .i64 a, .int .i64 b, .int .i64 n] w fun r w' => r = .returned (.int .i64 (pageErr a b n)) ∧ w = w' := by
  by_cases h : sizeErr a b = 0
  · have hz := sizeErr_zero h
    have H := Lib.hid h
    have hs : pageErr a b n = if (n : Int) = a * b then 0 else 2 := by unfold pageErr; rw [if_pos h]
    have HS := Lib.hid hs
    have hw : wrap64 (a * b) = a * b := by unfold wrap64; omega
    by_cases h2 : (n : Int) = a * b
    · have h2' : ((n : Int) != a * b) = false := by simpa using h2
      have H2 := Lib.hid h2
      clear h2 hs
      go_enter Try.func92, Try.ntmps92
      go_wp2_with ((go_at_call 91; refine (checkSize_any _ _ _).mono ?_; rintro e w' ⟨rfl, rfl⟩))
      go_ret
      exact ⟨ret_int (by rw [HS.out, if_pos H2.out]), rfl⟩
    · have h2' : ((n : Int) != a * b) = true := by simpa using h2
      have H2 := Lib.hid h2
      clear h2 hs
      go_enter Try.func92, Try.ntmps92
      go_wp2_with ((go_at_call 91; refine (checkSize_any _ _ _).mono ?_; rintro e w' ⟨rfl, rfl⟩))
      go_ret
      exact ⟨ret_int (by rw [HS.out, if_neg H2.out]), rfl⟩
  · have h' : (sizeErr a b != 0) = true := by simpa using h
    have H := Lib.hid h
    clear h
    go_enter Try.func92, Try.ntmps92
    go_wp2_with ((go_at_call 91; refine (checkSize_any _ _ _).mono ?_; rintro e w' ⟨rfl, rfl⟩))
    go_ret
    exact ⟨ret_int (by unfold pageErr; rw [if_neg H.out]), rfl⟩

theorem checkGray_any (a b : Int) (p : Option Addr) (n c : Nat) (w : World) : Calls Try.prog 14 #[.agg #[.int .i64 a, .int .i64 b, .slice p n c]] w fun r w' => r = .returned (.int .i64 (pageErr a b n)) ∧ w.alloc (.cells #[.int .i64 a, .int .i64 b, .slice p n c] 27) = w' := by
  go_enter Try.func14, Try.ntmps14
  go_wp2_with ((go_at_call 92; refine (check_any _ _ _ _).mono ?_; rintro e w' ⟨rfl, rfl⟩))
  go_ret
  exact ⟨rfl, rfl⟩

end Go.Proofs.Ytcpgnfbjdokdcaa
namespace Go.Proofs.Ytcpgnfbjdokdcaa
open Go.RowKit
set_option linter.unusedSimpArgs false
set_option linter.unusedVariables false

/-- The first n places of a page that is w wide, row by row. -/
def places {α : Type} (w : Nat) (f : Nat → Nat → α) (n : Nat) : List α := (List.range n).map fun k => f (k % w) (k / w)

theorem places_succ {α : Type} (w : Nat) (f : Nat → Nat → α) (x y : Nat) (hx : x < w) : places w f (y * w + x + 1) = places w f (y * w + x) ++ [f x y] := by
  have h1 : (y * w + x) % w = x := by rw [Nat.add_comm, Nat.mul_comm, Nat.add_mul_mod_self_left, Nat.mod_eq_of_lt hx]
  have h2 : (y * w + x) / w = y := by rw [Nat.add_comm, Nat.mul_comm, Nat.add_mul_div_left _ _ (by omega), Nat.div_eq_of_lt hx, Nat.zero_add]
  simp [places, List.range_succ, h1, h2]

theorem row_fits {w h y x : Nat} (hy : y < h) (hx : x ≤ w) : y * w + x ≤ w * h := by
  have : (y + 1) * w ≤ h * w := Nat.mul_le_mul_right _ hy
  rw [Nat.add_mul, Nat.one_mul] at this
  rw [Nat.mul_comm w h]
  omega

theorem below_owns {w w' : World} {base : Nat} {e : TypeId} {size : Nat} {v : Value} {n : Nat} {xs : List Value} (h : w.ownsRow base e size v n xs) (hb : Below w.heap.size w w') : w'.ownsRow base e size v n xs :=
  h.kept (row := none) ⟨hb.os, hb.tape, hb.output, hb.size, fun k hk _ => hb.block k hk⟩ (by cases v.ownBlock <;> simp)

theorem info_int : (Try.prog.info? 3).map (fun i => (i.zero, i.size, i.bytes)) = some (some (.int .i64 0), 1, 8) := by kernel_rfl

theorem block3 {w : World} {b : Nat} {x y z : Value} {t : TypeId} (h : w.heap[b]? = some (.cells #[x, y, z] t (0, 0))) :
    w.cell? ⟨b, 0, none⟩ = some x ∧ w.cell? ⟨b, 1, none⟩ = some y ∧ w.cell? ⟨b, 2, none⟩ = some z ∧ w.frozen? ⟨b, 0, none⟩ = false ∧ w.frozen? ⟨b, 1, none⟩ = false ∧ w.frozen? ⟨b, 2, none⟩ = false :=
  ⟨by rw [cell_of_row w b 0 _ t (0, 0) h]; rfl, by rw [cell_of_row w b 1 _ t (0, 0) h]; rfl, by rw [cell_of_row w b 2 _ t (0, 0) h]; rfl, frozen_of_row w b 0 _ t h, frozen_of_row w b 1 _ t h, frozen_of_row w b 2 _ t h⟩

theorem owns_base {w : World} {base base' : Nat} {e : TypeId} {size : Nat} {v : Value} {n : Nat} {xs : List Value} (h : w.ownsRow base e size v n xs) (hb : base' ≤ base) : w.ownsRow base' e size v n xs := by
  obtain ⟨h1, h2⟩ := h
  refine ⟨h1, ?_⟩
  rcases h2 with h2 | ⟨g, cap, cur, hv, hg, r⟩
  · exact Or.inl h2
  · exact Or.inr ⟨g, cap, cur, hv, Nat.le_trans hb hg, r⟩

theorem info_bool : (Try.prog.info? 4).map (fun i => (i.zero, i.size, i.bytes)) = some (some (.bool false), 1, 1) := by kernel_rfl

theorem below_drewN {B : Nat} {a w : World} (h : Below B a w) (q : Nat) : Below B a (w.drewN q) := ⟨h.os, h.tape, h.output, h.size, h.block⟩

theorem below_block {w w' : World} {b : Nat} {o : Obj} (hb : Below w.heap.size w w') (h : w.heap[b]? = some o) : w'.heap[b]? = some o :=
  (hb.block b (Array.getElem?_eq_some_iff.1 h).1).trans h
theorem grown_block {w w' : World} {b : Nat} {o : Obj} {row : Option Nat} (hg : w.grownBy w' row) (h : w.heap[b]? = some o) (hne : some b ≠ row) : w'.heap[b]? = some o :=
  (hg.block b (Array.getElem?_eq_some_iff.1 h).1 hne).trans h

theorem cell_far3 {w : World} {b : Nat} {x y z r : Value} {a : Addr} (hne : a.block ≠ b) (h : w.cell? a = some r) : (((w.setCell ⟨b, 0, none⟩ x).setCell ⟨b, 1, none⟩ y).setCell ⟨b, 2, none⟩ z).cell? a = some r := by
  rw [World.cell?_of_block (Below.heap_setCell _ _ _ _ hne), World.cell?_of_block (Below.heap_setCell _ _ _ _ hne), World.cell?_of_block (Below.heap_setCell _ _ _ _ hne)]
  exact h

theorem owns_far3 {w : World} {base base' b : Nat} {e : TypeId} {size : Nat} {v : Value} {n : Nat} {xs : List Value} {x y z : Value} (h : w.ownsRow base e size v n xs) (hb : b < base) (hbb : base' ≤ base) : (((w.setCell ⟨b, 0, none⟩ x).setCell ⟨b, 1, none⟩ y).setCell ⟨b, 2, none⟩ z).ownsRow base' e size v n xs :=
  owns_base (ownsRow_setCell_below (ownsRow_setCell_below (ownsRow_setCell_below h hb _) hb _) hb _) hbb
theorem below_far3 {w a : World} {B b : Nat} {x y z : Value} (h : Below B w a) (hb : B ≤ b) : Below B w (((a.setCell ⟨b, 0, none⟩ x).setCell ⟨b, 1, none⟩ y).setCell ⟨b, 2, none⟩ z) := ((h.setCell hb _).setCell hb _).setCell hb _

end Go.Proofs.Ytcpgnfbjdokdcaa
namespace Go.Proofs.Ytcpgnfbjdokdcaa
open Go.RowKit
set_option linter.unusedSimpArgs false
set_option linter.unusedVariables false

set_option maxHeartbeats 800000 in
set_option maxRecDepth 100000 in
theorem fillBool_any (w h g : Nat) (capt : Array Value) (f : Nat → Nat → Bool) (W0 : World) (hw : 1 ≤ w) (hw' : w ≤ 10000000) (hh : h ≤ 10000000) (hN : w * h ≤ 10000000)
    (eg : ∀ (args : Array Value) (W : World), (callFunc g args).run Try.prog W = .ok (.enter g args) W)
    (hc : ∀ (x y : Nat) (W : World), x < w → y < h → Below W0.heap.size W0 W → Calls Try.prog g (#[.int .i64 x, .int .i64 y] ++ capt) W fun e W' => e = .returned (.bool (f x y)) ∧ Below W.heap.size W W') :
    Calls Try.prog 103 #[.int .i64 w, .int .i64 h, .func (.func g) #[] capt] W0 fun e W' =>
      ∃ v, e = .returned v ∧ W'.ownsRow W0.heap.size 4 1 v (w * h) ((places w f (w * h)).map (Value.bool)) ∧ Below W0.heap.size W0 W' := by
  obtain ⟨i0, hi, hz0, hz1, hz2⟩ := info_parts info_bool
  have m0 : (0 : Int) ≤ (w : Int) * (h : Int) := Int.mul_nonneg (by omega) (by omega)
  have m1 : (w : Int) * (h : Int) ≤ 10000000 := by rw [← Int.natCast_mul]; omega
  have HC := Lib.hid hc
  clear hc
  go_enter Try.func103, Try.ntmps103
  go_wp2_with (at_make; refine wpList_make_own _ rfl _ _ 22 rfl W0.heap.size 4 i0 (.bool false) 1 Try.underlying22 hi hz0 hz1 _ _ _ (w * h) rfl rfl (by rw [Int.natCast_mul]) (by rw [hz2]; omega) (by unfold maxLen; omega) (Nat.le_refl _) ?_)
  intro w1 hown1 hgrow1
  have hb1 : Below W0.heap.size W0 w1 := (Below.refl _ _).grown hgrow1 (Nat.le_refl _) (by simp)
  clear hgrow1
  go_wp2
  go_loopw [7, 15] (fun v i wr => ∃ y : Nat, y ≤ h ∧ i = .int .i64 y ∧ wr.ownsRow W0.heap.size 4 1 v (y * w) ((places w f (y * w)).map (Value.bool)) ∧ Below W0.heap.size W0 wr) (fun _ i _ => h - (intOf i).toNat)
  case atStart => exact ⟨0, Nat.zero_le _, rfl, by simpa [places] using hown1, hb1⟩
  case round =>
    obtain ⟨y, hy, rfl, hown, hb⟩ := hrel
    clear hown1 hb1
    by_cases hlt : y < h
    · obtain ⟨wo, rfl⟩ : ∃ wo : World, wo = wr := ⟨_, rfl⟩
      go_wp2
      go_loopw [7, 19] (fun v i wr => ∃ x : Nat, x ≤ w ∧ i = .int .i64 x ∧ wr.ownsRow W0.heap.size 4 1 v (y * w + x) ((places w f (y * w + x)).map (Value.bool)) ∧ Below W0.heap.size W0 wr) (fun _ i _ => w - (intOf i).toNat)
      case atStart => exact ⟨0, Nat.zero_le _, rfl, by simpa using hown, hb⟩
      case round =>
        obtain ⟨x, hx, rfl, hownr, hbr⟩ := hrel
        clear hown hb
        by_cases hltx : x < w
        · have HC' := HC.out x y
          have hfit := row_fits hlt (show x + 1 ≤ w by omega)
          go_wp2_with (first | (go_at_fn g; refine (HC' _ hltx hlt hbr).mono ?_; rintro e w' ⟨rfl, hb'⟩; have hown' := below_owns hownr hb') | (at_builtin; refine wpList_append_own _ rfl _ _ 22 rfl W0.heap.size 4 i0 (.bool false) 1 1 Try.underlying22 hi hz0 hz1 hz2 rfl (by decide) _ _ _ rfl (hown'.alloc _) ⟨w'.heap.size, 0, none⟩ 1 1 [.bool (f x y)] rfl rfl ?c1 ?c2 ?c3 ?c4 ?c5 ?_))
          case c1 => exact cell_one_new _ _ _
          case c2 => intro u hu; simp at hu; subst hu; rfl
          case c3 => unfold maxLen; omega
          case c4 => omega
          case c5 => have h1 := hbr.size; have h2 := hb'.size; simp; omega
          · intro v' w2 hown2 hgr2 _
            have hb2 : Below W0.heap.size W0 w2 := (((hbr.trans (hb'.mono hbr.size))).alloc (Nat.le_trans hbr.size hb'.size) _).grown hgr2 (by have h1 := hbr.size; have h2 := hb'.size; simp; omega) (fun k hk => (hown'.lt k hk).1)
            have hp := Lib.hid (places_succ w f x y hltx)
            clear hgr2 hown' hownr hbr hb' HC'
            go_wp2
            go_roundw
            case rel => exact ⟨x + 1, by omega, by go_num, by rw [← Nat.add_assoc, hp.out, List.map_append]; exact hown2, hb2⟩
            case measure => simp [intOf]; omega
        · have hxe := Lib.hid (show x = w by omega)
          go_wp2
          go_roundw
          case rel => exact ⟨y + 1, by omega, by go_num, by rw [show (y + 1) * w = y * w + x by rw [hxe.out, Nat.add_mul, Nat.one_mul]]; exact hownr, hbr⟩
          case measure => simp [intOf]; omega
    · have hye := Lib.hid (show y = h by omega)
      go_wp2
      go_ret
      exact ⟨_, rfl, by rw [Nat.mul_comm w h, ← hye.out]; exact hown, hb⟩

end Go.Proofs.Ytcpgnfbjdokdcaa
namespace Go.Proofs.Ytcpgnfbjdokdcaa
open Go.RowKit
set_option linter.unusedSimpArgs false
set_option linter.unusedVariables false

/-- A box is in a page of W by H. -/
def InP (X Y bw bh : Int) (W H : Int) : Prop := (0 ≤ X ∧ X ≤ W - 1) ∧ (0 ≤ Y ∧ Y ≤ H - 1) ∧ (1 ≤ bw ∧ bw ≤ W - X) ∧ (1 ≤ bh ∧ bh ≤ H - Y)

end Go.Proofs.Ytcpgnfbjdokdcaa
namespace Go.Proofs.Ytcpgnfbjdokdcaa
open Go.RowKit
set_option linter.unusedSimpArgs false
set_option linter.unusedVariables false
attribute [local go_sem ↓] Go.wp_at_zero Go.wp_at_succ

/-- What holds while Made runs: n values are there; they lie in a row of their own, which the page's variable leads to. -/
def MadeRel (w h : Nat) (f : Nat → Nat → Bool) (W0 : World) (n : Nat) (wr : World) (v : Value) : Prop :=
  wr.ownsRow (W0.heap.size + 2) 4 1 v n ((places w f n).map Value.bool) ∧ wr.heap[W0.heap.size]? = some (.cells #[.int .i64 0, .int .i64 0, .slice none 0 0] 24 (0, 0)) ∧
  wr.heap[W0.heap.size + 1]? = some (.cells #[.int .i64 w, .int .i64 h, v] 24 (0, 0)) ∧ Below W0.heap.size W0 wr

theorem MadeRel.later {w h : Nat} {f : Nat → Nat → Bool} {W0 wr w' : World} {n : Nat} {v : Value} (hr : MadeRel w h f W0 n wr v) (hb : Below wr.heap.size wr w') : MadeRel w h f W0 n w' v :=
  ⟨below_owns hr.1 hb, below_block hb hr.2.1, below_block hb hr.2.2.1, below_step hr.2.2.2 hb⟩

theorem MadeRel.stored {w h : Nat} {f : Nat → Nat → Bool} {W0 wr w1 : World} {v v' : Value} {x y : Nat} (hr : MadeRel w h f W0 (y * w + x) wr v) (hx : x < w) (q : Bool) (hq : q = f x y)
    (hown : w1.ownsRow (W0.heap.size + 2) 4 1 v' (y * w + x + 1) ((places w f (y * w + x)).map Value.bool ++ [Value.bool q])) (hg : wr.grownBy w1 v.ownBlock) :
    MadeRel w h f W0 (y * w + x + 1) (w1.setCell ⟨W0.heap.size + 1, 2, none⟩ v') v' := by
  obtain ⟨h1, h2, h3, h4⟩ := hr
  have hrow : ∀ k, v.ownBlock = some k → W0.heap.size + 2 ≤ k := fun k hk => (h1.lt k hk).1
  have n0 : some W0.heap.size ≠ v.ownBlock := fun e => by have := hrow _ e.symm; omega
  have n1 : some (W0.heap.size + 1) ≠ v.ownBlock := fun e => by have := hrow _ e.symm; omega
  refine ⟨?_, ?_, ?_, ?_⟩
  · rw [places_succ w f x y hx, List.map_append, ← hq]
    exact ownsRow_setCell_below hown (by simp) _
  · rw [Below.heap_setCell _ _ _ _ (by simp)]
    exact grown_block hg h2 n0
  · exact heap_setCell_same w1 (W0.heap.size + 1) 2 #[.int .i64 w, .int .i64 h, v] 24 v' (grown_block hg h3 n1)
  · exact (h4.grown hg h4.size (fun k hk => by have := hrow k hk; omega)).setCell (by simp) _

set_option maxHeartbeats 2000000 in
set_option maxRecDepth 100000 in
theorem made_any (w h g : Nat) (capt : Array Value) (f : Nat → Nat → Bool) (W0 : World) (hw : 1 ≤ w) (hw' : w ≤ 10000000) (hh : h ≤ 10000000) (hN : w * h ≤ 10000000)
    (eg : ∀ (args : Array Value) (W : World), (callFunc g args).run Try.prog W = .ok (.enter g args) W)
    (hc : ∀ (x y : Nat) (W : World), x < w → y < h → Below W0.heap.size W0 W → Calls Try.prog g (#[.int .i64 x, .int .i64 y] ++ capt) W fun e W' => e = .returned (.bool (f x y)) ∧ Below W.heap.size W W') :
    Calls Try.prog 39 #[.int .i64 w, .int .i64 h, .func (.func g) #[] capt] W0 fun e W' =>
      ∃ v, e = .returned (.agg #[.int .i64 w, .int .i64 h, v]) ∧ W'.ownsRow W0.heap.size 4 1 v (w * h) ((places w f (w * h)).map Value.bool) ∧ Below W0.heap.size W0 W' := by
  obtain ⟨i0, hi, hz0, hz1, hz2⟩ := info_parts info_bool
  have HC := Lib.hid hc
  clear hc
  go_enter Try.func39, Try.ntmps39
  go_wp2_with fail
  obtain ⟨w1, hw1⟩ : ∃ w1, w1 = (W0.alloc (.cells #[.int .i64 0, .int .i64 0, .slice none 0 0] 24)).alloc (.cells #[.int .i64 w, .int .i64 h, .slice none 0 0] 24) := ⟨_, rfl⟩
  have B1 : Below W0.heap.size W0 w1 := by rw [hw1]; exact below_alloc (new_below _ _) _
  have b0 : w1.heap[W0.heap.size]? = some (.cells #[.int .i64 0, .int .i64 0, .slice none 0 0] 24 (0, 0)) := by
    rw [hw1, Below.heap_alloc _ _ _ (by simp)]; exact heap_alloc_new _ _
  have b1 : w1.heap[W0.heap.size + 1]? = some (.cells #[.int .i64 w, .int .i64 h, .slice none 0 0] 24 (0, 0)) := by
    rw [hw1]; simpa using heap_alloc_new (W0.alloc (.cells #[.int .i64 0, .int .i64 0, .slice none 0 0] 24)) (.cells #[.int .i64 w, .int .i64 h, .slice none 0 0] 24)
  rw [← hw1]
  clear hw1
  have R1 : MadeRel w h f W0 0 w1 (.slice none 0 0) := ⟨by simpa [places] using World.ownsRow_nil _ _ _ _, b0, b1, B1⟩
  clear b0 b1 B1
  go_loopw [14] (fun i wr => ∃ (y : Nat) (v : Value), y ≤ h ∧ i = .int .i64 y ∧ MadeRel w h f W0 (y * w) wr v) (fun i _ => h - (intOf i).toNat)
  case atStart => exact ⟨0, _, Nat.zero_le _, rfl, by simpa using R1⟩
  case round =>
    obtain ⟨y, v0, hy, rfl, hrel0⟩ := hrel
    clear R1
    by_cases hlt : y < h
    · obtain ⟨wo, rfl⟩ : ∃ wo : World, wo = wr := ⟨_, rfl⟩
      go_wp2_with fail
      go_loopw [18] (fun i wr => ∃ (x : Nat) (v : Value), x ≤ w ∧ i = .int .i64 x ∧ MadeRel w h f W0 (y * w + x) wr v) (fun i _ => w - (intOf i).toNat)
      case atStart => exact ⟨0, v0, Nat.zero_le _, rfl, by simpa using hrel0⟩
      case round =>
        obtain ⟨x, v, hx, rfl, hrelr⟩ := hrel
        clear hrel0
        by_cases hltx : x < w
        · have HC' := HC.out x y
          have hfit := row_fits hlt (show x + 1 ≤ w by omega)
          obtain ⟨k0, k1, k2, r0, r1, r2⟩ := block3 hrelr.2.2.1
          have hl := World.block_lt_of_cell? _ _ k2
          simp only at hl
          have HR := Lib.hid hrelr
          obtain ⟨q, hq⟩ : ∃ q, q = f x y := ⟨_, rfl⟩
          rw [← hq] at HC'
          have HQ := Lib.hid hq
          have hnb : some (W0.heap.size + 1) ≠ v.ownBlock := fun e => by have := (hrelr.1.lt _ e.symm).1; omega
          clear hq hrelr k0 k1 r0 r1
          go_wp2_with fail
          go_region_law ((first | (go_simp; go_at_fn g; refine (HC' _ hltx hlt (HR.out.2.2.2.drew)).mono ?_; rintro e w' ⟨rfl, hb'⟩; have hrel' := HR.out.later (below_step (Below.refl _ _).drew hb'); have kk := cell_later (below_step (Below.refl _ _).drew hb') k2; have hl' := Nat.lt_of_lt_of_le hl hb'.size) | (refine step_append_lies _ (by rfl) _ _ _ (by rfl) (W0.heap.size + 2) 4 i0 (.bool false) 1 1 Try.underlying22 hi hz0 hz1 hz2 rfl (by omega) v (y * w + x) _ (by rfl) (hrel'.1.alloc _) ⟨w'.heap.size, 0, none⟩ 1 1 [.bool q] (by rfl) (by rfl) (cell_one_new _ _ _) (by simp [Value.oneCell']) (by omega) (by unfold maxLen; omega) (by omega) (by have := hrel'.2.2.2.size; have := World.block_lt_of_cell? _ _ (block3 hrel'.2.2.1).1; simp at this; simp; omega) (w'.heap.size + 1) (by simp) ?_; intro gg cap w5 hown5 hgrow hat hlt5; have hb5 := block3 (grown_block hgrow ((Below.heap_alloc _ _ _ (Array.getElem?_eq_some_iff.1 hrel'.2.2.1).1).trans hrel'.2.2.1) hnb); have hfz5 := hb5.2.2.2.2.2; have hcl5 := hb5.2.2.1; clear hb5)))
          all_goals
            have RR := (hrel'.later (new_below w' _)).stored hltx q HQ.out hown5 hgrow
            clear hown5 hgrow hat hlt5 hfz5 hcl5 hrel' kk hl' hb' HC' k2 hl hnb
            go_wp2_with fail
            go_roundw
            case rel => exact ⟨x + 1, _, by omega, by go_num, RR⟩
            case measure => simp [intOf]; omega
        · have hxe := Lib.hid (show x = w by omega)
          go_wp2_with fail
          go_roundw
          case rel => exact ⟨y + 1, v, by omega, by go_num, by rw [show (y + 1) * w = y * w + x by rw [hxe.out, Nat.add_mul, Nat.one_mul]]; exact hrelr⟩
          case measure => simp [intOf]; omega
    · have hye := Lib.hid (show y = h by omega)
      obtain ⟨va, vn, vc, rfl⟩ : ∃ a n c, v0 = .slice a n c := by
        rcases hrel0.1.2 with ⟨h0, _⟩ | ⟨g, cap, cur, h0, _⟩
        · exact ⟨_, _, _, h0⟩
        · exact ⟨_, _, _, h0⟩
      have HR := Lib.hid hrel0
      obtain ⟨k0, k1, k2, _, _, _⟩ := block3 hrel0.2.2.1
      obtain ⟨j0, j1, j2, r0, r1, r2⟩ := block3 hrel0.2.1
      clear hrel0
      go_wp2_with fail
      refine bodyPost_ret (v := .agg #[.int .i64 w, .int .i64 h, .slice va vn vc]) (by simp [results, Try.results39, go_sem, j0, j1, j2]) rfl ⟨_, rfl, ?_, ?_⟩
      · have h1 := HR.out.1
        rw [hye.out, Nat.mul_comm h w] at h1
        exact owns_base (ownsRow_setCell_below (ownsRow_setCell_below (ownsRow_setCell_below h1 (by simp) _) (by simp) _) (by simp) _) (by omega)
      · exact ((HR.out.2.2.2.setCell (by simp) _).setCell (by simp) _).setCell (by simp) _

end Go.Proofs.Ytcpgnfbjdokdcaa
namespace Go.Proofs.Ytcpgnfbjdokdcaa
open Go.RowKit
set_option linter.unusedSimpArgs false
set_option linter.unusedVariables false
attribute [local go_sem ↓] Go.wp_at_zero Go.wp_at_succ

theorem owns_shape {w : World} {base : Nat} {e : TypeId} {size : Nat} {v : Value} {n : Nat} {xs : List Value} (h : w.ownsRow base e size v n xs) : ∃ a l c, v = .slice a l c := by
  rcases h.2 with ⟨h0, _⟩ | ⟨g, cap, cur, h0, _⟩
  · exact ⟨_, _, _, h0⟩
  · exact ⟨_, _, _, h0⟩

end Go.Proofs.Ytcpgnfbjdokdcaa
namespace Go.Proofs.Ytcpgnfbjdokdcaa
open Go.RowKit
set_option linter.unusedSimpArgs false
set_option linter.unusedVariables false

theorem info_byte : (Try.prog.info? 5).map (fun i => (i.zero, i.size, i.bytes)) = some (some (.int .u8 0), 1, 1) := by kernel_rfl

end Go.Proofs.Ytcpgnfbjdokdcaa
namespace Go.Proofs.Ytcpgnfbjdokdcaa
open Go.RowKit
set_option linter.unusedSimpArgs false
set_option linter.unusedVariables false

set_option maxRecDepth 100000 in
theorem equalBool_true (g1 o1 g2 o2 n c1 c2 : Nat) (z : Nat → Bool) (w : World) (hn : n ≤ 100000000)
    (h1 : ∀ j, j < n → w.cell? ⟨g1, o1 + j, none⟩ = some (.bool (z j))) (h2 : ∀ j, j < n → w.cell? ⟨g2, o2 + j, none⟩ = some (.bool (z j))) :
    Calls Try.prog 129 #[.slice (some ⟨g1, o1, none⟩) n c1, .slice (some ⟨g2, o2, none⟩) n c2] w fun e w' => e = .returned (.bool true) ∧ ∃ q, w' = w.drewN q := by
  have H1 := Lib.hid h1
  have H2 := Lib.hid h2
  clear h1 h2
  go_enter Try.func129, Try.ntmps129
  go_wp2
  go_loopw [13] (fun i wr => ∃ k q : Nat, k ≤ n ∧ i = .int .i64 k ∧ wr = w.drewN q) (fun i _ => n - (intOf i).toNat)
  case atStart => exact ⟨0, 0, Nat.zero_le _, rfl, rfl⟩
  case round =>
    obtain ⟨k, q, hk, rfl, rfl⟩ := hrel
    by_cases hlt : k < n
    · have e1 := H1.out k hlt
      have e2 := H2.out k hlt
      generalize z k = x at e1 e2
      have i1 : (k : Int) < (n : Int) := by omega
      have i0 : (0 : Int) ≤ (k : Int) := by omega
      go_wp2
      go_quiet (fail)
      go_wp2
      go_roundw
      case rel => exact ⟨k + 1, _, by omega, by go_num, rfl⟩
      case measure => simp [intOf]; omega
    · go_wp2
      go_ret
      exact ⟨rfl, q, rfl⟩

end Go.Proofs.Ytcpgnfbjdokdcaa
namespace Go.Proofs.Ytcpgnfbjdokdcaa
open Go.RowKit
set_option linter.unusedSimpArgs false
set_option linter.unusedVariables false
attribute [local go_sem ↓] Go.wp_at_zero Go.wp_at_succ

theorem sameBits_true (W H : Int) (g1 o1 g2 o2 n c1 c2 : Nat) (z : Nat → Bool) (w : World) (hn : n ≤ 100000000)
    (h1 : ∀ j, j < n → w.cell? ⟨g1, o1 + j, none⟩ = some (.bool (z j))) (h2 : ∀ j, j < n → w.cell? ⟨g2, o2 + j, none⟩ = some (.bool (z j))) :
    Calls Try.prog 79 #[.agg #[.int .i64 W, .int .i64 H, .slice (some ⟨g1, o1, none⟩) n c1], .agg #[.int .i64 W, .int .i64 H, .slice (some ⟨g2, o2, none⟩) n c2]] w fun e w' => e = .returned (.bool true) ∧ Below w.heap.size w w' := by
  have HE := Lib.hid (equalBool_true g1 o1 g2 o2 n c1 c2 z ((w.alloc (.cells #[.int .i64 W, .int .i64 H, .slice (some ⟨g1, o1, none⟩) n c1] 24)).alloc (.cells #[.int .i64 W, .int .i64 H, .slice (some ⟨g2, o2, none⟩) n c2] 24)) hn
    (fun j hj => cell_later (below_alloc (new_below _ _) _) (h1 j hj)) (fun j hj => cell_later (below_alloc (new_below _ _) _) (h2 j hj)))
  clear h1 h2
  go_enter Try.func79, Try.ntmps79
  go_wp2_with (go_at_call 129; refine HE.out.mono ?_; rintro e w1 ⟨rfl, q, rfl⟩)
  go_ret
  exact ⟨rfl, below_drewN (below_alloc (new_below _ _) _) q⟩

end Go.Proofs.Ytcpgnfbjdokdcaa
namespace Go.Proofs.Ytcpgnfbjdokdcaa
open Go.RowKit
set_option linter.unusedSimpArgs false
set_option linter.unusedVariables false
attribute [local go_sem ↓] Go.wp_at_zero Go.wp_at_succ

/-- What holds while Made runs: n values are there; they lie in a row of their own, which the page's variable leads to. -/
def MadeRelY (w h : Nat) (f : Nat → Nat → Int) (W0 : World) (n : Nat) (wr : World) (v : Value) : Prop :=
  wr.ownsRow (W0.heap.size + 2) 5 1 v n ((places w f n).map (Value.int .u8)) ∧ wr.heap[W0.heap.size]? = some (.cells #[.int .i64 0, .int .i64 0, .slice none 0 0] 27 (0, 0)) ∧
  wr.heap[W0.heap.size + 1]? = some (.cells #[.int .i64 w, .int .i64 h, v] 27 (0, 0)) ∧ Below W0.heap.size W0 wr

theorem MadeRelY.later {w h : Nat} {f : Nat → Nat → Int} {W0 wr w' : World} {n : Nat} {v : Value} (hr : MadeRelY w h f W0 n wr v) (hb : Below wr.heap.size wr w') : MadeRelY w h f W0 n w' v :=
  ⟨below_owns hr.1 hb, below_block hb hr.2.1, below_block hb hr.2.2.1, below_step hr.2.2.2 hb⟩

theorem MadeRelY.stored {w h : Nat} {f : Nat → Nat → Int} {W0 wr w1 : World} {v v' : Value} {x y : Nat} (hr : MadeRelY w h f W0 (y * w + x) wr v) (hx : x < w) (q : Int) (hq : q = f x y)
    (hown : w1.ownsRow (W0.heap.size + 2) 5 1 v' (y * w + x + 1) ((places w f (y * w + x)).map (Value.int .u8) ++ [Value.int .u8 q])) (hg : wr.grownBy w1 v.ownBlock) :
    MadeRelY w h f W0 (y * w + x + 1) (w1.setCell ⟨W0.heap.size + 1, 2, none⟩ v') v' := by
  obtain ⟨h1, h2, h3, h4⟩ := hr
  have hrow : ∀ k, v.ownBlock = some k → W0.heap.size + 2 ≤ k := fun k hk => (h1.lt k hk).1
  have n0 : some W0.heap.size ≠ v.ownBlock := fun e => by have := hrow _ e.symm; omega
  have n1 : some (W0.heap.size + 1) ≠ v.ownBlock := fun e => by have := hrow _ e.symm; omega
  refine ⟨?_, ?_, ?_, ?_⟩
  · rw [places_succ w f x y hx, List.map_append, ← hq]
    exact ownsRow_setCell_below hown (by simp) _
  · rw [Below.heap_setCell _ _ _ _ (by simp)]
    exact grown_block hg h2 n0
  · exact heap_setCell_same w1 (W0.heap.size + 1) 2 #[.int .i64 w, .int .i64 h, v] 27 v' (grown_block hg h3 n1)
  · exact (h4.grown hg h4.size (fun k hk => by have := hrow k hk; omega)).setCell (by simp) _

set_option maxHeartbeats 2000000 in
set_option maxRecDepth 100000 in
theorem madeGray_any (w h g : Nat) (capt : Array Value) (f : Nat → Nat → Int) (W0 : World) (hw : 1 ≤ w) (hw' : w ≤ 10000000) (hh : h ≤ 10000000) (hN : w * h ≤ 10000000)
    (eg : ∀ (args : Array Value) (W : World), (callFunc g args).run Try.prog W = .ok (.enter g args) W)
    (hc : ∀ (x y : Nat) (W : World), x < w → y < h → Below W0.heap.size W0 W → Calls Try.prog g (#[.int .i64 x, .int .i64 y] ++ capt) W fun e W' => e = .returned (.int .u8 (f x y)) ∧ Below W.heap.size W W') :
    Calls Try.prog 30 #[.int .i64 w, .int .i64 h, .func (.func g) #[] capt] W0 fun e W' =>
      ∃ v, e = .returned (.agg #[.int .i64 w, .int .i64 h, v]) ∧ W'.ownsRow W0.heap.size 5 1 v (w * h) ((places w f (w * h)).map (Value.int .u8)) ∧ Below W0.heap.size W0 W' := by
  obtain ⟨i0, hi, hz0, hz1, hz2⟩ := info_parts info_byte
  have HC := Lib.hid hc
  clear hc
  go_enter Try.func30, Try.ntmps30
  go_wp2_with fail
  obtain ⟨w1, hw1⟩ : ∃ w1, w1 = (W0.alloc (.cells #[.int .i64 0, .int .i64 0, .slice none 0 0] 27)).alloc (.cells #[.int .i64 w, .int .i64 h, .slice none 0 0] 27) := ⟨_, rfl⟩
  have B1 : Below W0.heap.size W0 w1 := by rw [hw1]; exact below_alloc (new_below _ _) _
  have b0 : w1.heap[W0.heap.size]? = some (.cells #[.int .i64 0, .int .i64 0, .slice none 0 0] 27 (0, 0)) := by
    rw [hw1, Below.heap_alloc _ _ _ (by simp)]; exact heap_alloc_new _ _
  have b1 : w1.heap[W0.heap.size + 1]? = some (.cells #[.int .i64 w, .int .i64 h, .slice none 0 0] 27 (0, 0)) := by
    rw [hw1]; simpa using heap_alloc_new (W0.alloc (.cells #[.int .i64 0, .int .i64 0, .slice none 0 0] 27)) (.cells #[.int .i64 w, .int .i64 h, .slice none 0 0] 27)
  rw [← hw1]
  clear hw1
  have R1 : MadeRelY w h f W0 0 w1 (.slice none 0 0) := ⟨by simpa [places] using World.ownsRow_nil _ _ _ _, b0, b1, B1⟩
  clear b0 b1 B1
  go_loopw [14] (fun i wr => ∃ (y : Nat) (v : Value), y ≤ h ∧ i = .int .i64 y ∧ MadeRelY w h f W0 (y * w) wr v) (fun i _ => h - (intOf i).toNat)
  case atStart => exact ⟨0, _, Nat.zero_le _, rfl, by simpa using R1⟩
  case round =>
    obtain ⟨y, v0, hy, rfl, hrel0⟩ := hrel
    clear R1
    by_cases hlt : y < h
    · obtain ⟨wo, rfl⟩ : ∃ wo : World, wo = wr := ⟨_, rfl⟩
      go_wp2_with fail
      go_loopw [18] (fun i wr => ∃ (x : Nat) (v : Value), x ≤ w ∧ i = .int .i64 x ∧ MadeRelY w h f W0 (y * w + x) wr v) (fun i _ => w - (intOf i).toNat)
      case atStart => exact ⟨0, v0, Nat.zero_le _, rfl, by simpa using hrel0⟩
      case round =>
        obtain ⟨x, v, hx, rfl, hrelr⟩ := hrel
        clear hrel0
        by_cases hltx : x < w
        · have HC' := HC.out x y
          have hfit := row_fits hlt (show x + 1 ≤ w by omega)
          obtain ⟨k0, k1, k2, r0, r1, r2⟩ := block3 hrelr.2.2.1
          have hl := World.block_lt_of_cell? _ _ k2
          simp only at hl
          have HR := Lib.hid hrelr
          obtain ⟨q, hq⟩ : ∃ q, q = f x y := ⟨_, rfl⟩
          rw [← hq] at HC'
          have HQ := Lib.hid hq
          have hnb : some (W0.heap.size + 1) ≠ v.ownBlock := fun e => by have := (hrelr.1.lt _ e.symm).1; omega
          clear hq hrelr k0 k1 r0 r1
          go_wp2_with fail
          go_region_law ((first | (go_simp; go_at_fn g; refine (HC' _ hltx hlt (HR.out.2.2.2.drew)).mono ?_; rintro e w' ⟨rfl, hb'⟩; have hrel' := HR.out.later (below_step (Below.refl _ _).drew hb'); have kk := cell_later (below_step (Below.refl _ _).drew hb') k2; have hl' := Nat.lt_of_lt_of_le hl hb'.size) | (refine step_append_lies _ (by rfl) _ _ _ (by rfl) (W0.heap.size + 2) 5 i0 (.int .u8 0) 1 1 Try.underlying25 hi hz0 hz1 hz2 rfl (by omega) v (y * w + x) _ (by rfl) (hrel'.1.alloc _) ⟨w'.heap.size, 0, none⟩ 1 1 [.int .u8 q] (by rfl) (by rfl) (cell_one_new _ _ _) (by simp [Value.oneCell']) (by omega) (by unfold maxLen; omega) (by omega) (by have := hrel'.2.2.2.size; have := World.block_lt_of_cell? _ _ (block3 hrel'.2.2.1).1; simp at this; simp; omega) (w'.heap.size + 1) (by simp) ?_; intro gg cap w5 hown5 hgrow hat hlt5; have hb5 := block3 (grown_block hgrow ((Below.heap_alloc _ _ _ (Array.getElem?_eq_some_iff.1 hrel'.2.2.1).1).trans hrel'.2.2.1) hnb); have hfz5 := hb5.2.2.2.2.2; have hcl5 := hb5.2.2.1; clear hb5)))
          all_goals
            have RR := (hrel'.later (new_below w' _)).stored hltx q HQ.out hown5 hgrow
            clear hown5 hgrow hat hlt5 hfz5 hcl5 hrel' kk hl' hb' HC' k2 hl hnb
            go_wp2_with fail
            go_roundw
            case rel => exact ⟨x + 1, _, by omega, by go_num, RR⟩
            case measure => simp [intOf]; omega
        · have hxe := Lib.hid (show x = w by omega)
          go_wp2_with fail
          go_roundw
          case rel => exact ⟨y + 1, v, by omega, by go_num, by rw [show (y + 1) * w = y * w + x by rw [hxe.out, Nat.add_mul, Nat.one_mul]]; exact hrelr⟩
          case measure => simp [intOf]; omega
    · have hye := Lib.hid (show y = h by omega)
      obtain ⟨va, vn, vc, rfl⟩ : ∃ a n c, v0 = .slice a n c := by
        rcases hrel0.1.2 with ⟨h0, _⟩ | ⟨g, cap, cur, h0, _⟩
        · exact ⟨_, _, _, h0⟩
        · exact ⟨_, _, _, h0⟩
      have HR := Lib.hid hrel0
      obtain ⟨k0, k1, k2, _, _, _⟩ := block3 hrel0.2.2.1
      obtain ⟨j0, j1, j2, r0, r1, r2⟩ := block3 hrel0.2.1
      clear hrel0
      go_wp2_with fail
      refine bodyPost_ret (v := .agg #[.int .i64 w, .int .i64 h, .slice va vn vc]) (by simp [results, Try.results30, go_sem, j0, j1, j2]) rfl ⟨_, rfl, ?_, ?_⟩
      · have h1 := HR.out.1
        rw [hye.out, Nat.mul_comm h w] at h1
        exact owns_base (ownsRow_setCell_below (ownsRow_setCell_below (ownsRow_setCell_below h1 (by simp) _) (by simp) _) (by simp) _) (by omega)
      · exact ((HR.out.2.2.2.setCell (by simp) _).setCell (by simp) _).setCell (by simp) _

end Go.Proofs.Ytcpgnfbjdokdcaa
namespace Go.Proofs.Ytcpgnfbjdokdcaa
open Go.ChangeShapes Go.WideShapes Go.ChangeAt Go.RowKit Go.Joins
open Go.ChangeMaps (open_string shut_string)
set_option linter.unusedVariables false

theorem own : ownKnob Try.prog.godebug = none := by kernel_rfl
theorem laidOut : laidOutB Try.prog = true := by kernel_rfl
theorem cellsGray : Try.prog.cellsOf 27 = 3 := by kernel_rfl
theorem cellsByte : Try.prog.cellsOf 5 = 1 := by kernel_rfl

/-- A slice of bytes that came in: nil; or its cells hold the numbers zs, each a byte. -/
def IsBytes (w : World) (a : Option Addr) (len cap : Nat) (zs : List Int) : Prop :=
  (a = none ∧ len = 0 ∧ cap = 0 ∧ zs = []) ∨
  ∃ x, a = some x ∧ len ≤ cap ∧ zs.length = cap ∧ (∀ i, i < zs.length → w.cell? (x.add i) = some (.int .u8 (zs.getD i 0))) ∧ ∀ n ∈ zs, (Lit.int .u8 n).wf = true

theorem isBytes_cells {w : World} {a : Option Addr} {len cap : Nat} {zs : List Int} (h : IsBytes w a len cap zs) (hl : 1 ≤ len) :
    ∃ pb po, a = some ⟨pb, po, none⟩ ∧ (∀ j, j < len → w.cell? ⟨pb, po + j, none⟩ = some (.int .u8 (zs.getD j 0))) ∧ ∀ j, 0 ≤ zs.getD j 0 ∧ zs.getD j 0 ≤ 255 := by
  rcases h with ⟨_, h0, _⟩ | ⟨⟨pb, po, spot⟩, rfl, hlc, hz, hcell, hwf⟩
  · omega
  · have hspot : spot = none := by simpa [Addr.add] using World.cell?_spot (hcell 0 (by omega))
    subst hspot
    refine ⟨pb, po, rfl, fun j hj => by have := hcell j (by omega); rwa [Addr.add_lit] at this, fun j => ?_⟩
    by_cases hj : j < zs.length
    · have hm : zs.getD j 0 ∈ zs := by rw [List.getD_eq_getElem?_getD, List.getElem?_eq_getElem hj]; exact List.getElem_mem hj
      have hmin : IntKind.u8.min = 0 := rfl
      have hmax : IntKind.u8.max = 255 := rfl
      have := hwf _ hm
      simp only [Lit.wf, Bool.and_eq_true, decide_eq_true_eq] at this
      omega
    · rw [List.getD_eq_getElem?_getD, List.getElem?_eq_none (by omega)]
      simp

theorem isBytes_later {w w' : World} {a : Option Addr} {len cap : Nat} {zs : List Int} (h : IsBytes w a len cap zs) (hb : Below w.heap.size w w') : IsBytes w' a len cap zs := by
  rcases h with h | ⟨x, h1, h2, h3, h4, h5⟩
  · exact .inl h
  · exact .inr ⟨x, h1, h2, h3, fun i hi => (hb.cell (World.block_lt_of_cell? _ _ (h4 i hi))).trans (h4 i hi), h5⟩

end Go.Proofs.Ytcpgnfbjdokdcaa
namespace Go.Proofs.Ytcpgnfbjdokdcaa
open Go.RowKit
set_option linter.unusedSimpArgs false
set_option linter.unusedVariables false

instance (X Y bw bh W H : Int) : Decidable (InP X Y bw bh W H) := by unfold InP; infer_instance

/-- The error of a cut: of the page, else of the box. -/
def cutErr (a b : Int) (n : Nat) (X Y bw bh : Int) : Int := if pageErr a b n = 0 then (if InP X Y bw bh a b then 0 else 13) else pageErr a b n

theorem owns_pageB {w : World} {base : Nat} {v : Value} {N bw : Nat} {f : Nat → Nat → Bool} (h : w.ownsRow base 4 1 v N ((places bw f N).map Value.bool)) (hN : 1 ≤ N) :
    ∃ g c, v = .slice (some ⟨g, 0, none⟩) N c ∧ base ≤ g ∧ ∀ j, j < N → w.cell? ⟨g, 0 + j, none⟩ = some (.bool (f (j % bw) (j / bw))) := by
  rcases h.2 with ⟨_, h0⟩ | ⟨g, c, cur, rfl, hg, _⟩
  · omega
  · exact ⟨g, c, rfl, hg, fun j hj => by rw [Nat.zero_add, h.cellAt j (by omega)]; simp [places, List.getElem?_range hj]⟩

theorem owns_pageY {w : World} {base : Nat} {v : Value} {N bw : Nat} {f : Nat → Nat → Int} (h : w.ownsRow base 5 1 v N ((places bw f N).map (Value.int .u8))) (hN : 1 ≤ N) :
    ∃ g c, v = .slice (some ⟨g, 0, none⟩) N c ∧ base ≤ g ∧ ∀ j, j < N → w.cell? ⟨g, 0 + j, none⟩ = some (.int .u8 (f (j % bw) (j / bw))) := by
  rcases h.2 with ⟨_, h0⟩ | ⟨g, c, cur, rfl, hg, _⟩
  · omega
  · exact ⟨g, c, rfl, hg, fun j hj => by rw [Nat.zero_add, h.cellAt j (by omega)]; simp [places, List.getElem?_range hj]⟩

/-- What a cut is, in memory: nothing with an error; else the places of the box. -/
def CutIs (a b : Int) (n : Nat) (X Y bw bh : Int) (z : Nat → Bool) (B : Nat) (w : World) (i j : Int) (sl : Option Addr) (n' c' : Nat) : Prop :=
  (cutErr a b n X Y bw bh ≠ 0 ∧ i = 0 ∧ j = 0 ∧ sl = none ∧ n' = 0 ∧ c' = 0) ∨
  (cutErr a b n X Y bw bh = 0 ∧ i = bw ∧ j = bh ∧ n' = bw.toNat * bh.toNat ∧ ∃ g, B ≤ g ∧ sl = some ⟨g, 0, none⟩ ∧ ∀ k, k < n' → w.cell? ⟨g, 0 + k, none⟩ = some (.bool (z ((Y.toNat + k / bw.toNat) * a.toNat + X.toNat + k % bw.toNat))))

theorem CutIs.later {a b : Int} {n : Nat} {X Y bw bh : Int} {z : Nat → Bool} {B : Nat} {w w' : World} {i j : Int} {sl : Option Addr} {n' c' : Nat} (h : CutIs a b n X Y bw bh z B w i j sl n' c') (hb : Below w.heap.size w w') : CutIs a b n X Y bw bh z B w' i j sl n' c' := by
  rcases h with h | ⟨h1, h2, h3, h4, g, h5, h6, h7⟩
  · exact .inl h
  · exact .inr ⟨h1, h2, h3, h4, g, h5, h6, fun k hk => cell_later hb (h7 k hk)⟩
end Go.Proofs.Ytcpgnfbjdokdcaa
namespace Go.Proofs.Ytcpgnfbjdokdcaa
open Go.RowKit
set_option linter.unusedSimpArgs false
set_option linter.unusedVariables false

/-- The sum of the first n of f. -/
def sumN (f : Nat → Nat) : Nat → Nat
  | 0 => 0
  | n + 1 => sumN f n + f n

theorem sumN_le (f : Nat → Nat) (m : Nat) (h : ∀ j, f j ≤ m) : ∀ n, sumN f n ≤ n * m
  | 0 => by simp [sumN]
  | n + 1 => by
    have h1 := sumN_le f m h n
    have h2 := h n
    rw [sumN, Nat.add_mul]
    omega

end Go.Proofs.Ytcpgnfbjdokdcaa

namespace Go.Proofs.Ytcpgnfbjdokdcaa
open Go.RowKit
set_option linter.unusedSimpArgs false
set_option linter.unusedVariables false

end Go.Proofs.Ytcpgnfbjdokdcaa
namespace Go.Proofs.Ytcpgnfbjdokdcaa
open Go.RowKit
set_option linter.unusedSimpArgs false
set_option linter.unusedVariables false

/-- A list of numbers, as values. -/
def numsOf (f : Nat → Nat) (n : Nat) : List Value := (List.range n).map fun k => Value.int .i64 ((f k : Nat) : Int)
theorem numsOf_get (f : Nat → Nat) (n k : Nat) (h : k < n) : (numsOf f n)[k]? = some (.int .i64 ((f k : Nat) : Int)) := by simp [numsOf, List.getElem?_range h]

end Go.Proofs.Ytcpgnfbjdokdcaa

namespace Go.Proofs.Ytcpgnfbjdokdcaa
open Go.RowKit
set_option linter.unusedSimpArgs false
set_option linter.unusedVariables false

end Go.Proofs.Ytcpgnfbjdokdcaa

namespace Go.Proofs.Ytcpgnfbjdokdcaa
open Go.RowKit
set_option linter.unusedSimpArgs false
set_option linter.unusedVariables false

theorem numsOf_congr {f g : Nat → Nat} {n : Nat} (h : ∀ j, j < n → f j = g j) : numsOf f n = numsOf g n := by
  unfold numsOf
  refine List.map_congr_left fun k hk => ?_
  rw [h k (by simpa using hk)]
theorem numsOf_set {f g : Nat → Nat} {n j v : Nat} (hj : j < n) (hv : g j = v) (h : ∀ i, i < n → i ≠ j → g i = f i) : (numsOf f n).set j (.int .i64 ((v : Nat) : Int)) = numsOf g n := by
  refine List.ext_getElem? fun k => ?_
  rw [List.getElem?_set]
  by_cases hk : k < n
  · rw [numsOf_get g n k hk]
    by_cases e : j = k
    · subst e; simp [numsOf, hv, hj]
    · rw [if_neg e, numsOf_get f n k hk, h k hk fun e' => e e'.symm]
  · have h1 : (numsOf g n)[k]? = none := by simp [numsOf]; omega
    have h2 : (numsOf f n)[k]? = none := by simp [numsOf]; omega
    rw [h1]
    by_cases e : j = k
    · omega
    · rw [if_neg e, h2]
theorem numsOf_length (f : Nat → Nat) (n : Nat) : (numsOf f n).length = n := by simp [numsOf]

theorem numsOf_zero (n : Nat) : List.replicate n (Value.int .i64 0) = numsOf (fun _ => 0) n := by
  refine List.ext_getElem? fun k => ?_
  by_cases hk : k < n
  · rw [numsOf_get _ _ _ hk, List.getElem?_replicate, if_pos hk]; rfl
  · rw [List.getElem?_replicate, if_neg hk]; symm; exact List.getElem?_eq_none (by rw [numsOf_length]; omega)

end Go.Proofs.Ytcpgnfbjdokdcaa

namespace Go.Proofs.Ytcpgnfbjdokdcaa
open Go.RowKit
set_option linter.unusedSimpArgs false
set_option linter.unusedVariables false

/-- What a list of counts is, in memory: nothing with an error, else the counts. -/
def ListIs (E : Int) (f : Nat → Nat) (m B : Nat) (w : World) (sl : Option Addr) (n' c' : Nat) : Prop :=
  (E ≠ 0 ∧ sl = none ∧ n' = 0 ∧ c' = 0) ∨ (E = 0 ∧ n' = m ∧ ∃ g, B ≤ g ∧ sl = some ⟨g, 0, none⟩ ∧ ∀ k, k < m → w.cell? ⟨g, 0 + k, none⟩ = some (.int .i64 ((f k : Nat) : Int)))

theorem ListIs.later {E : Int} {f : Nat → Nat} {m B : Nat} {w w' : World} {sl : Option Addr} {n' c' : Nat} (h : ListIs E f m B w sl n' c') (hb : Below w.heap.size w w') : ListIs E f m B w' sl n' c' := by
  rcases h with h | ⟨h1, h2, g, h3, h4, h5⟩
  · exact .inl h
  · exact .inr ⟨h1, h2, g, h3, h4, fun k hk => cell_later hb (h5 k hk)⟩

theorem owns_nums {w : World} {base : Nat} {v : Value} {f : Nat → Nat} {m : Nat} (h : w.ownsRow base 3 1 v m (numsOf f m)) (hm : 1 ≤ m) :
    ∃ g c, v = .slice (some ⟨g, 0, none⟩) m c ∧ base ≤ g ∧ ∀ k, k < m → w.cell? ⟨g, 0 + k, none⟩ = some (.int .i64 ((f k : Nat) : Int)) := by
  rcases h.2 with ⟨_, h0⟩ | ⟨g, c, cur, rfl, hg, _⟩
  · omega
  · exact ⟨g, c, rfl, hg, fun k hk => by rw [Nat.zero_add, h.cellAt k (by omega), numsOf_get f m k hk]⟩

end Go.Proofs.Ytcpgnfbjdokdcaa
namespace Go.Proofs.Ytcpgnfbjdokdcaa
open Go.RowKit
set_option linter.unusedSimpArgs false
set_option linter.unusedVariables false

/-- What a page is that was made by places, in memory: nothing with an error; else its places. -/
def PageIs (E : Int) (a b : Int) (f : Nat → Nat → Bool) (B : Nat) (w : World) (i j : Int) (sl : Option Addr) (n' c' : Nat) : Prop :=
  (E ≠ 0 ∧ i = 0 ∧ j = 0 ∧ sl = none ∧ n' = 0 ∧ c' = 0) ∨
  (E = 0 ∧ i = a ∧ j = b ∧ n' = a.toNat * b.toNat ∧ ∃ g, B ≤ g ∧ sl = some ⟨g, 0, none⟩ ∧ ∀ k, k < n' → w.cell? ⟨g, 0 + k, none⟩ = some (.bool (f (k % a.toNat) (k / a.toNat))))

theorem PageIs.later {E a b : Int} {f : Nat → Nat → Bool} {B : Nat} {w w' : World} {i j : Int} {sl : Option Addr} {n' c' : Nat} (h : PageIs E a b f B w i j sl n' c') (hb : Below w.heap.size w w') : PageIs E a b f B w' i j sl n' c' := by
  rcases h with h | ⟨h1, h2, h3, h4, g, h5, h6, h7⟩
  · exact .inl h
  · exact .inr ⟨h1, h2, h3, h4, g, h5, h6, fun k hk => cell_later hb (h7 k hk)⟩
theorem row_prod {W H y : Nat} (hW : W ≤ 4000) (hH : H ≤ 4000) (hy : y < H) : y * W ≤ 16000000 ∧ y * W + W ≤ H * W := by
  have h1 := Nat.mul_le_mul (show y ≤ 4000 by omega) hW
  have h2 := Nat.mul_le_mul_right W (show y + 1 ≤ H by omega)
  rw [Nat.add_mul, Nat.one_mul] at h2
  exact ⟨h1, h2⟩

end Go.Proofs.Ytcpgnfbjdokdcaa
namespace Go.Proofs.Ytcpgnfbjdokdcaa
open Go.RowKit
set_option linter.unusedSimpArgs false
set_option linter.unusedVariables false

/-- What a page is that was made by places, in memory: nothing with an error; else its places. -/
def PageIsY (E : Int) (a b : Int) (f : Nat → Nat → Int) (B : Nat) (w : World) (i j : Int) (sl : Option Addr) (n' c' : Nat) : Prop :=
  (E ≠ 0 ∧ i = 0 ∧ j = 0 ∧ sl = none ∧ n' = 0 ∧ c' = 0) ∨
  (E = 0 ∧ i = a ∧ j = b ∧ n' = a.toNat * b.toNat ∧ ∃ g, B ≤ g ∧ sl = some ⟨g, 0, none⟩ ∧ ∀ k, k < n' → w.cell? ⟨g, 0 + k, none⟩ = some (.int .u8 (f (k % a.toNat) (k / a.toNat))))

theorem PageIsY.later {E a b : Int} {f : Nat → Nat → Int} {B : Nat} {w w' : World} {i j : Int} {sl : Option Addr} {n' c' : Nat} (h : PageIsY E a b f B w i j sl n' c') (hb : Below w.heap.size w w') : PageIsY E a b f B w' i j sl n' c' := by
  rcases h with h | ⟨h1, h2, h3, h4, g, h5, h6, h7⟩
  · exact .inl h
  · exact .inr ⟨h1, h2, h3, h4, g, h5, h6, fun k hk => cell_later hb (h7 k hk)⟩
end Go.Proofs.Ytcpgnfbjdokdcaa
namespace Go.Proofs.Ytcpgnfbjdokdcaa
open Go.RowKit
set_option linter.unusedSimpArgs false
set_option linter.unusedVariables false

/-- How many of the first n numbers are v. -/
def histN (zs : Nat → Int) (n v : Nat) : Nat := sumN (fun j => if zs j = (v : Int) then 1 else 0) n
theorem histN_le (zs : Nat → Int) (n v : Nat) : histN zs n v ≤ n := by
  have := sumN_le (fun j => if zs j = (v : Int) then 1 else 0) 1 (fun j => by split <;> omega) n
  unfold histN
  omega
theorem histN_hit (zs : Nat → Int) (n v : Nat) (h : zs n = (v : Int)) : histN zs (n + 1) v = histN zs n v + 1 := by simp [histN, sumN, h]
theorem histN_miss (zs : Nat → Int) (n v u : Nat) (h : zs n = (v : Int)) (hu : u ≠ v) : histN zs (n + 1) u = histN zs n u := by
  simp only [histN, sumN, h]
  rw [if_neg (by omega)]; rfl

theorem hist_step {w : World} {base g n v c : Nat} {zs : Nat → Int} (h : w.ownsRow base 3 1 (.slice (some ⟨g, 0, none⟩) 256 c) 256 (numsOf (histN zs n) 256)) (hz : zs n = (v : Int)) (hv : v < 256) :
    (w.setCell ⟨g, v, none⟩ (.int .i64 ((histN zs n v + 1 : Nat) : Int))).ownsRow base 3 1 (.slice (some ⟨g, 0, none⟩) 256 c) 256 (numsOf (histN zs (n + 1)) 256) := by
  have := (h.stored v (.int .i64 ((histN zs n v + 1 : Nat) : Int))).1
  rw [numsOf_set (g := histN zs (n + 1)) hv (histN_hit zs n v hz) fun i _ hi => histN_miss zs n v i hz hi] at this
  exact this

set_option maxHeartbeats 1000000 in
set_option maxRecDepth 100000 in
theorem histogram_ok (W H g o n c : Nat) (z : Nat → Int) (w : World) (hs : sizeErr W H = 0) (hn : n = W * H) (hzb : ∀ j, 0 ≤ z j ∧ z j ≤ 255)
    (hp : ∀ j, j < n → w.cell? ⟨g, o + j, none⟩ = some (.int .u8 (z j))) :
    Calls Try.prog 59 #[.agg #[.int .i64 W, .int .i64 H, .slice (some ⟨g, o, none⟩) n c]] w fun e w' =>
      ∃ v, e = .returned (.tuple #[v, .int .i64 0]) ∧ w'.ownsRow w.heap.size 3 1 v 256 (numsOf (histN z n) 256) ∧ Below w.heap.size w w' := by
  obtain ⟨i0, hi, hz0, hz1, hz2⟩ := info_parts info_int
  obtain ⟨⟨a1, a2, a3, a4⟩, z0, z1⟩ := sizeErr_zero hs
  have hN : n ≤ 1048576 := by rw [hn]; rw [← Int.natCast_mul] at z1; omega
  have hpe : pageErr W H n = 0 := by unfold pageErr; rw [if_pos hs, if_pos (by rw [hn]; simp [Int.natCast_mul])]
  have HC := Lib.hid hp
  have HZ := Lib.hid hzb
  clear hp hs z0 z1 hn hzb
  go_enter Try.func59, Try.ntmps59
  go_wp2_with (first | (go_at_call 14; refine (checkGray_any _ _ _ _ _ _).mono ?_; rintro e w' ⟨rfl, rfl⟩) | (at_make; refine wpList_make_full _ rfl _ _ 69 rfl (w.heap.size + 2) 3 i0 (.int .i64 0) 1 Try.underlying69 hi hz0 hz1 _ _ _ _ 256 rfl rfl rfl rfl (by rw [hz2]; omega) (by unfold maxLen; omega) (by simp) ?_))
  intro w1 hown1 hgrow1
  rw [toList_madeCells_one, numsOf_zero] at hown1
  have hb1 := (Below.refl (w.heap.size + 2) _).grown hgrow1 (by simp) (by simp)
  have B1 := (below_alloc (new_below w (.cells #[.int .i64 W, .int .i64 H, .slice (some ⟨g, o, none⟩) n c] 27)) (.cells #[.int .i64 W, .int .i64 H, .slice (some ⟨g, o, none⟩) n c] 27)).trans (hb1.mono (show w.heap.size ≤ w.heap.size + 2 by omega))
  have k2 : w1.cell? ⟨w.heap.size, 2, none⟩ = some (.slice (some ⟨g, o, none⟩) n c) := (hb1.cell (p := ⟨w.heap.size, 2, none⟩) (by simp)).trans (by go_simp)
  have HB1 := Lib.hid B1
  have hst : w1.ownsRow (w.heap.size + 2) 3 1 (.slice (some ⟨w.heap.size + 1 + 1, 0, none⟩) 256 256) 256 (numsOf (histN z 0) 256) := by
    rw [← numsOf_congr (f := fun _ => 0) (g := histN z 0) (fun j _ => rfl)]; exact hown1
  have HST := Lib.hid hst
  have HC1 := Lib.hid (fun j hj => cell_later B1 (HC.out j hj))
  have HL := Lib.hid (fun j (hj : j < n) => show g < w.heap.size + 2 from by have := World.block_lt_of_cell? _ _ (HC.out j hj); simp at this; omega)
  clear hgrow1 hb1 hown1 B1 hst
  go_wp2_with fail
  go_loopw [17] (fun i wr => ∃ j : Nat, j ≤ n ∧ i = .int .i64 j ∧ wr.ownsRow (w.heap.size + 2) 3 1 (.slice (some ⟨w.heap.size + 1 + 1, 0, none⟩) 256 256) 256 (numsOf (histN z j) 256) ∧ Below (w.heap.size + 2) w1 wr) (fun i _ => n - (intOf i).toNat)
  case atStart => exact ⟨0, Nat.zero_le _, rfl, HST.out, Below.refl _ _⟩
  case round =>
    obtain ⟨j, hj, rfl, hown, hb⟩ := hrel
    by_cases hlt : j < n
    · have hpx := (hb.cell (p := ⟨g, o + j, none⟩) (HL.out j hlt)).trans (HC1.out j hlt)
      obtain ⟨v, hv⟩ := Int.eq_ofNat_of_zero_le (HZ.out j).1
      have hv2 : v < 256 := by have := (HZ.out j).2; omega
      rw [hv] at hpx
      have hcell := hown.cellAt v (by omega)
      rw [numsOf_get _ _ _ hv2] at hcell
      have hfz := hown.frozenAt v
      have hle := histN_le z j v
      have HS := Lib.hid (hist_step hown hv hv2)
      obtain ⟨k, hk⟩ : ∃ k, k = histN z j v := ⟨_, rfl⟩
      rw [← hk] at hcell hle HS
      have HB := Lib.hid hb
      have i1 : (j : Int) < (n : Int) := by omega
      have i2 : (v : Int) < 256 := by omega
      clear hk hown hb hv
      go_wp2_with fail
      go_roundw
      case rel => exact ⟨j + 1, by omega, by go_num, by have := HS.out; rw [show ((k + 1 : Nat) : Int) = (k : Int) + 1 by omega] at this; exact this, HB.out.setCell (by simp) _⟩
      case measure => simp [intOf]; omega
    · obtain rfl : j = n := by omega
      have HO := Lib.hid hown
      have HB := Lib.hid hb
      clear hown hb
      go_wp2_with fail
      go_ret2
      exact ⟨_, rfl, owns_base HO.out (by omega), HB1.out.trans (HB.out.mono (by omega))⟩

end Go.Proofs.Ytcpgnfbjdokdcaa

namespace Go.Proofs.Ytcpgnfbjdokdcaa
open Go.RowKit
set_option linter.unusedSimpArgs false
set_option linter.unusedVariables false

set_option maxRecDepth 100000 in
theorem toBits1_any (W H x y pb lb g o n c t : Nat) (q lv : Int) (w : World) (hW : W ≤ 4000) (hH : H ≤ 4000) (hx : x < W) (hy : y < H) (hn : n = W * H) (ht : t = y * W + x) (hq : 0 ≤ q ∧ q ≤ 255)
    (c0 : w.cell? ⟨pb, 0, none⟩ = some (.int .i64 W)) (c2 : w.cell? ⟨pb, 2, none⟩ = some (.slice (some ⟨g, o, none⟩) n c)) (c3 : w.cell? ⟨lb, 0, none⟩ = some (.int .i64 lv)) (hc : w.cell? ⟨g, o + t, none⟩ = some (.int .u8 q)) :
    Calls Try.prog 116 #[.int .i64 x, .int .i64 y, .pointer (some ⟨pb, 0, none⟩), .pointer (some ⟨lb, 0, none⟩)] w fun e w' => e = .returned (.bool (decide (q < lv))) ∧ ∃ k, w' = w.drewN k := by
  obtain ⟨r1, r2⟩ := row_prod hW hH hy
  obtain ⟨P, hP⟩ : ∃ P, P = y * W := ⟨_, rfl⟩
  have e0 : IntKind.i64.wrap ((y : Int) * (W : Int)) = (P : Int) := by rw [← Int.natCast_mul, ← hP]; exact IntWalk.i64_in _ (by omega)
  rw [← hP] at r1 r2 ht
  have htn : (t : Int) < (n : Int) := by rw [hn, Nat.mul_comm W H]; omega
  have htn' : t < n := by omega
  have e1 : IntKind.i64.wrap ((P : Int) + (x : Int)) = (t : Int) := by rw [show (P : Int) + (x : Int) = (t : Int) by omega]; exact IntWalk.i64_in _ (by omega)
  have t0 : (0 : Int) ≤ (t : Int) := by omega
  have e2 : IntKind.i64.wrap q = q := IntWalk.i64_in _ (by omega)
  clear hP ht hn r2
  go_enter Try.func116, Try.ntmps116
  go_wp2_with fail
  go_quiet (fail)
  go_wp2_with fail
  go_ret
  exact ⟨rfl, _, rfl⟩

end Go.Proofs.Ytcpgnfbjdokdcaa
