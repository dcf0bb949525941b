/-
  What top_straight_holds leans on: contracts of the functions that it calls.
-/
import Derived.Test.YtofcojcfcpfdmaaRows
import Derived.WalkKit
import Derived.WalkSpells
import Derived.WalkLawsBesides
import Derived.Lib.Hide
import Derived.Deep.RegionHeld3
import Derived.Shelf.Abstract
import Derived.Deep.AppendLies
import Derived.Deep.DrawnRows
import Derived.Deep.RegionLaw
import Derived.Deep.QuietTactic
import Derived.BigQuiet
import Derived.ProofKit
import Derived.OpenShut
import Derived.ShutString
import Derived.ChangeOld
import Derived.Lib.SmallJoins
import Derived.Deep.Grids
import Derived.Deep.DeepCutAuto
import Derived.Lib.MinMax
import Derived.Deep.CutRange
import Derived.Laws.EntriesVeiled
import Derived.StillTailTactics
import Derived.RegionTactic
import Derived.ChangeAlike
import Derived.BigRegion
import Derived.Test.YtofcojcfcpfdmaaCTop1
namespace Go.Proofs.Ytofcojcfcpfdmaa
open Go.RowKit
set_option linter.unusedSimpArgs false
set_option linter.unusedVariables false

theorem inkAtS_in (W H g o c x y : Nat) (q : Bool) (w : World) (hW : W ≤ 4000) (hH : H ≤ 4000) (hx : x < W) (hy : y < H) (hc : w.cell? ⟨g, o + (y * W + x), none⟩ = some (.bool q)) :
    Calls Try.prog 76 #[.agg #[.int .i64 W, .int .i64 H, .slice (some ⟨g, o, none⟩) (W * H) c], .int .i64 x, .int .i64 y] w fun e w' => e = .returned (.bool q) ∧ Below w.heap.size w w' := by
  have hcl := World.block_lt_of_cell? _ _ hc
  simp only at hcl
  have m0 : (0 : Int) ≤ (y : Int) * (W : Int) := Int.mul_nonneg (by omega) (by omega)
  have hfit := row_fits hy (show x + 1 ≤ W by omega)
  have m2 : (y : Int) * (W : Int) + (x : Int) < ((W * H : Nat) : Int) := by rw [← Int.natCast_mul]; omega
  have hN := Nat.mul_le_mul hW hH
  have m1 : (y : Int) * (W : Int) + (x : Int) < (W : Int) * (H : Int) := by rw [← Int.natCast_mul, ← Int.natCast_mul]; omega
  have m3 : (W : Int) * (H : Int) ≤ 100000000 := by rw [← Int.natCast_mul]; omega
  clear hfit hN
  go_enter Try.func76, Try.ntmps76
  go_wp2_with (first | (go_at_call 56; refine (outsideS_no _ _ _ _ (by omega)).mono ?_; rintro e w' ⟨rfl, rfl⟩))
  go_ret
  exact ⟨rfl, new_below _ _⟩

theorem inkAtS_out (W H g o n c : Nat) (x y : Int) (s : Option Addr) (w : World) (hW : W ≤ 4000) (hH : H ≤ 4000) (h : ¬ ((0 ≤ x ∧ x ≤ (W : Int) - 1) ∧ (0 ≤ y ∧ y ≤ (H : Int) - 1))) :
    Calls Try.prog 76 #[.agg #[.int .i64 W, .int .i64 H, .slice s n c], .int .i64 x, .int .i64 y] w fun e w' => e = .returned (.bool false) ∧ Below w.heap.size w w' := by
  by_cases hx : 0 ≤ x ∧ x ≤ (W : Int) - 1
  · have HY := Lib.hid (show ¬ (0 ≤ y ∧ y ≤ (H : Int) - 1) from fun k => h ⟨hx, k⟩)
    have HX := Lib.hid hx
    clear h hx
    go_enter Try.func76, Try.ntmps76
    go_wp2_with (first | (go_at_call 56; refine (outsideS_yes _ _ _ _ (by have := HY.out; omega)).mono ?_; rintro e w' ⟨rfl, rfl⟩) | (go_at_call 56; refine (outsideS_no _ _ _ _ (by have := HX.out; omega)).mono ?_; rintro e w' ⟨rfl, rfl⟩))
    go_ret
    exact ⟨rfl, new_below _ _⟩
  · have HX := Lib.hid hx
    clear h hx
    go_enter Try.func76, Try.ntmps76
    go_wp2_with (first | (go_at_call 56; refine (outsideS_yes _ _ _ _ (by have := HX.out; omega)).mono ?_; rintro e w' ⟨rfl, rfl⟩))
    go_ret
    exact ⟨rfl, new_below _ _⟩

/-- The error of how far a page leans. -/
def leanErr (n low : Int) : Int := if low ≤ n ∧ n ≤ 256 then 0 else 3

theorem atB_in {W H : Nat} {z : Nat → Bool} {x y : Nat} (hx : x < W) (hy : y < H) : atB W H z (x : Int) (y : Int) = z (y * W + x) := by
  unfold atB; rw [if_pos ⟨by omega, by omega⟩, Int.toNat_natCast, Int.toNat_natCast]

theorem inkAtS_any (W H g o c : Nat) (x y : Int) (z : Nat → Bool) (w : World) (hW : W ≤ 4000) (hH : H ≤ 4000) (hc : ∀ j, j < W * H → w.cell? ⟨g, o + j, none⟩ = some (.bool (z j))) :
    Calls Try.prog 76 #[.agg #[.int .i64 W, .int .i64 H, .slice (some ⟨g, o, none⟩) (W * H) c], .int .i64 x, .int .i64 y] w fun e w' => e = .returned (.bool (atB W H z x y)) ∧ Below w.heap.size w w' := by
  by_cases h : (0 ≤ x ∧ x ≤ (W : Int) - 1) ∧ (0 ≤ y ∧ y ≤ (H : Int) - 1)
  · obtain ⟨X, rfl⟩ : ∃ X : Nat, x = (X : Int) := ⟨x.toNat, by omega⟩
    obtain ⟨Y, rfl⟩ : ∃ Y : Nat, y = (Y : Int) := ⟨y.toNat, by omega⟩
    rw [atB_in (by omega) (by omega)]
    have hfit := row_fits (show Y < H by omega) (show X + 1 ≤ W by omega)
    exact inkAtS_in W H g o c X Y _ w hW hH (by omega) (by omega) (hc _ (by omega))
  · have e : atB W H z x y = false := by unfold atB; rw [if_neg h]
    rw [e]
    exact inkAtS_out W H g o (W * H) c x y _ w hW hH h
set_option maxHeartbeats 400000 in
theorem lean1_any (W H gb lb g o c sg sc x y : Nat) (f : Nat → Int) (z : Nat → Bool) (w : World) (hW : W ≤ 4000) (hH : H ≤ 4000) (hx : x < W) (hy : y < H) (hf : -1100 ≤ f x ∧ f x ≤ 1100)
    (h0 : w.cell? ⟨gb, 0, none⟩ = some (.int .i64 W)) (h1 : w.cell? ⟨gb, 1, none⟩ = some (.int .i64 H)) (h2 : w.cell? ⟨gb, 2, none⟩ = some (.slice (some ⟨g, o, none⟩) (W * H) c)) (h3 : w.cell? ⟨lb, 0, none⟩ = some (.slice (some ⟨sg, 0, none⟩) W sc))
    (h4 : w.cell? ⟨sg, x, none⟩ = some (.int .i64 (f x))) (hc : ∀ j, j < W * H → w.cell? ⟨g, o + j, none⟩ = some (.bool (z j))) :
    Calls Try.prog 75 #[.int .i64 x, .int .i64 y, .pointer (some ⟨gb, 0, none⟩), .pointer (some ⟨lb, 0, none⟩)] w fun e w' => e = .returned (.bool (atB W H z (x : Int) ((y : Int) - f x))) ∧ Below w.heap.size w w' := by
  obtain ⟨s, hs⟩ : ∃ s, s = f x := ⟨_, rfl⟩
  rw [← hs] at hf h4 ⊢
  obtain ⟨s1, s2⟩ := hf
  have i1 : (x : Int) < (W : Int) := by omega
  have i0 : (0 : Int) ≤ (x : Int) := by omega
  have HI := Lib.hid (inkAtS_any W H g o c (x : Int) ((y : Int) - s) z w.drew hW hH (fun j hj => cell_later (Below.refl _ _).drew (hc j hj)))
  have e1 : IntKind.i64.wrap ((y : Int) - s) = (y : Int) - s := IntWalk.i64_in _ (by omega)
  clear hs hc
  go_enter Try.func75, Try.ntmps75
  go_wp2_with fail
  go_region_held3 (fun w' => w'.cell? ⟨gb, 0, none⟩ = some (.int .i64 W) ∧ w'.cell? ⟨gb, 1, none⟩ = some (.int .i64 H) ∧ w'.cell? ⟨gb, 2, none⟩ = some (.slice (some ⟨g, o, none⟩) (W * H) c) ∧ w'.cell? ⟨lb, 0, none⟩ = some (.slice (some ⟨sg, 0, none⟩) W sc) ∧ w'.cell? ⟨sg, x, none⟩ = some (.int .i64 s))
    (first | (go_keep; done) | (go_split_ands; exact ⟨cell_later hb5 (by assumption), cell_later hb5 (by assumption), cell_later hb5 (by assumption), cell_later hb5 (by assumption), cell_later hb5 (by assumption)⟩))
    ((first | (go_at_call 76; ((with_reducible refine HI.out.mono ?_); rintro e w5 ⟨rfl, hb5⟩))))
  go_wp2_with fail
  go_ret
  exact ⟨rfl, below_step (Below.refl _ _).drew hb5⟩

theorem checkLean_any (a b n : Int) (p : Option Addr) (k c : Nat) (w : World) :
    Calls Try.prog 72 #[.agg #[.int .i64 a, .int .i64 b, .slice p k c], .int .i64 n] w fun e w' => e = .returned (.int .i64 (orI (pageErr a b k) (leanErr n (-256)))) ∧ Below w.heap.size w w' := by
  by_cases hp : pageErr a b k = 0
  · have t1 : (pageErr a b k != 0) = false := by simpa using hp
    by_cases hn : -256 ≤ n ∧ n ≤ 256
    · have H1 := Lib.hid hn
      have e : orI (pageErr a b k) (leanErr n (-256)) = 0 := by unfold orI leanErr; rw [if_pos hp, if_pos hn]
      rw [e]
      clear hn e hp
      go_enter Try.func72, Try.ntmps72
      go_wp2_with (first | (go_at_call 25; refine (checkBits_any _ _ _ _ _ _).mono ?_; rintro e w' ⟨rfl, rfl⟩) | (go_at_call 56; refine (outsideS_no _ _ _ _ H1.out).mono ?_; rintro e w' ⟨rfl, rfl⟩))
      go_ret
      exact ⟨rfl, below_alloc (new_below _ _) _⟩
    · have H1 := Lib.hid hn
      have e : orI (pageErr a b k) (leanErr n (-256)) = 3 := by unfold orI leanErr; rw [if_pos hp, if_neg hn]
      rw [e]
      clear hn e hp
      go_enter Try.func72, Try.ntmps72
      go_wp2_with (first | (go_at_call 25; refine (checkBits_any _ _ _ _ _ _).mono ?_; rintro e w' ⟨rfl, rfl⟩) | (go_at_call 56; refine (outsideS_yes _ _ _ _ H1.out).mono ?_; rintro e w' ⟨rfl, rfl⟩))
      go_ret
      exact ⟨rfl, below_alloc (new_below _ _) _⟩
  · have t1 : (pageErr a b k != 0) = true := by simpa using hp
    have e : orI (pageErr a b k) (leanErr n (-256)) = pageErr a b k := by unfold orI; rw [if_neg hp]
    rw [e]
    clear e hp
    go_enter Try.func72, Try.ntmps72
    go_wp2_with (first | (go_at_call 25; refine (checkBits_any _ _ _ _ _ _).mono ?_; rintro e w' ⟨rfl, rfl⟩))
    go_ret
    exact ⟨rfl, below_alloc (new_below _ _) _⟩

set_option maxHeartbeats 800000 in
theorem moved_any (W H g o n c clo : Nat) (capt : Array Value) (f : Nat → Nat → Bool) (w : World) (hW : 1 ≤ W ∧ W ≤ 4000) (hH : 1 ≤ H ∧ H ≤ 4000) (hN : W * H ≤ 1048576)
    (eg : ∀ (args : Array Value) (W : World), (callFunc clo args).run Try.prog W = .ok (.enter clo args) W)
    (hc : ∀ (x y : Nat) (wx : World), x < W → y < H → Below w.heap.size w wx → Calls Try.prog clo (#[.int .i64 x, .int .i64 y] ++ capt) wx fun e W' => e = .returned (.bool (f x y)) ∧ Below wx.heap.size wx W') :
    Calls Try.prog 74 #[.agg #[.int .i64 W, .int .i64 H, .slice (some ⟨g, o, none⟩) n c], .func (.func clo) #[] capt] w fun e w' =>
      ∃ v, e = .returned (.agg #[.int .i64 W, .int .i64 H, v]) ∧ w'.ownsRow w.heap.size 4 1 v (W * H) ((places W f (W * H)).map Value.bool) ∧ Below w.heap.size w w' := by
  have HC := Lib.hid hc
  have EG := Lib.hid eg
  clear hc eg
  go_enter Try.func74, Try.ntmps74
  go_wp2_with fail
  obtain ⟨w1, hw1⟩ : ∃ w1, w1 = (w.alloc (.cells #[.int .i64 W, .int .i64 H, .slice (some ⟨g, o, none⟩) n c] 40)).alloc (.cells #[.int .i64 0, .int .i64 0, .slice none 0 0] 40) := ⟨_, rfl⟩
  have B1 : Below w.heap.size w w1 := by rw [hw1]; exact below_alloc (new_below _ _) _
  have q0 : w1.cell? ⟨w.heap.size, 0, none⟩ = some (.int .i64 W) := by rw [hw1]; go_simp
  have q1 : w1.cell? ⟨w.heap.size, 1, none⟩ = some (.int .i64 H) := by rw [hw1]; go_simp
  have qb : w1.heap[w.heap.size + 1]? = some (.cells #[.int .i64 0, .int .i64 0, .slice none 0 0] 40 (0, 0)) := by
    rw [hw1]; simpa using heap_alloc_new (w.alloc (.cells #[.int .i64 W, .int .i64 H, .slice (some ⟨g, o, none⟩) n c] 40)) (.cells #[.int .i64 0, .int .i64 0, .slice none 0 0] 40)
  rw [← hw1]
  clear hw1
  have lt3 := Lib.hid (Array.getElem?_eq_some_iff.1 qb).1
  have ne1 := Lib.hid (show w.heap.size ≠ w.heap.size + 1 by omega)
  have HW := Lib.hid (fillBool_any W H clo capt f w1.drew (by omega) (by omega) (by omega) (by omega) EG.out (fun x y wx hx hy hbx => HC.out x y wx hx hy (below_step B1.drew hbx)))
  go_region_held3 (fun w' => w'.cell? ⟨w.heap.size, 0, none⟩ = some (.int .i64 W) ∧ w'.cell? ⟨w.heap.size, 1, none⟩ = some (.int .i64 H))
    (first | (go_keep; done) | (go_split_ands; exact ⟨cell_later hb5 (by assumption), cell_later hb5 (by assumption)⟩) | (go_split_ands; exact ⟨cell_far3 ne1.out (by assumption), cell_far3 ne1.out (by assumption)⟩))
    ((first | (go_at_call 114; ((with_reducible refine HW.out.mono ?_); rintro e w5 ⟨v, rfl, hown5, hb5⟩; have hq5 := block3 (below_block (below_step (Below.refl _ _).drew hb5) qb); obtain ⟨j0, j1, j2, r0, r1, r2⟩ := hq5; have vs : ∃ a n c, v = .slice a n c := owns_shape hown5; obtain ⟨va, vn, vc, hv⟩ := vs; subst hv))))
  go_wp2_with fail
  refine bodyPost_ret (v := .agg #[.int .i64 W, .int .i64 H, .slice va vn vc]) (by simp [results, Try.results74, go_sem, j0, j1, j2]) rfl ⟨_, rfl, ?_, ?_⟩
  · exact owns_far3 hown5 lt3.out B1.size
  · exact below_far3 (below_step B1.drew hb5) (by omega)

end Go.Proofs.Ytofcojcfcpfdmaa
namespace Go.Proofs.Ytofcojcfcpfdmaa
open Go.RowKit
set_option linter.unusedSimpArgs false
set_option linter.unusedVariables false

set_option maxHeartbeats 800000 in
set_option maxRecDepth 100000 in
theorem lean_ok (W H g o c : Nat) (n : Int) (z : Nat → Bool) (w : World) (hs : sizeErr W H = 0) (hn : -256 ≤ n ∧ n ≤ 256) (hp : ∀ j, j < W * H → w.cell? ⟨g, o + j, none⟩ = some (.bool (z j))) :
    Calls Try.prog 22 #[.agg #[.int .i64 W, .int .i64 H, .slice (some ⟨g, o, none⟩) (W * H) c], .int .i64 n] w fun e w' =>
      ∃ v, e = .returned (.tuple #[.agg #[.int .i64 W, .int .i64 H, v], .int .i64 0]) ∧ w'.ownsRow w.heap.size 4 1 v (W * H) ((places W (fun x y => atB W H z (x : Int) ((y : Int) - fallV W n x)) (W * H)).map Value.bool) ∧ Below w.heap.size w w' := by
  have hmf : ∀ (fn : Fn) (first cap : Array Value) (w : World), (Instr.makeFunc fn first cap).run Try.prog w = .ok (.func fn first cap) w := fun _ _ _ _ => rfl
  obtain ⟨⟨a1, a2, a3, a4⟩, a5, a6⟩ := sizeErr_zero hs
  have hpe : pageErr W H (W * H) = 0 := by unfold pageErr; rw [if_pos hs, if_pos (by simp [Int.natCast_mul])]
  have hN : W * H ≤ 1048576 := by rw [← Int.natCast_mul] at a6; omega
  have hq : orI (pageErr W H (W * H)) (leanErr n (-256)) = 0 := by unfold orI leanErr; rw [if_pos hpe, if_pos hn]
  have HQ := Lib.hid hq
  have HC := Lib.hid hp
  have HN := Lib.hid hn
  have bW : 1 ≤ W ∧ W ≤ 4000 := by omega
  have bH : 1 ≤ H ∧ H ≤ 4000 := by omega
  obtain ⟨n1, n2⟩ := hn
  clear hp hq hpe a5 a6 hs
  go_enter Try.func22, Try.ntmps22
  go_wp2_with fail
  obtain ⟨w1, hw1⟩ : ∃ w1, w1 = (w.alloc (.cells #[.int .i64 W, .int .i64 H, .slice (some ⟨g, o, none⟩) (W * H) c] 40)).alloc (.cells #[.int .i64 0, .int .i64 0, .slice none 0 0] 40) := ⟨_, rfl⟩
  have B1 : Below w.heap.size w w1 := by rw [hw1]; exact below_alloc (new_below _ _) _
  have q0 : w1.heap[w.heap.size]? = some (.cells #[.int .i64 W, .int .i64 H, .slice (some ⟨g, o, none⟩) (W * H) c] 40 (0, 0)) := by
    rw [hw1, Below.heap_alloc _ _ _ (by simp)]; exact heap_alloc_new _ _
  have qb : w1.heap[w.heap.size + 1]? = some (.cells #[.int .i64 0, .int .i64 0, .slice none 0 0] 40 (0, 0)) := by
    rw [hw1]; simpa using heap_alloc_new (w.alloc (.cells #[.int .i64 W, .int .i64 H, .slice (some ⟨g, o, none⟩) (W * H) c] 40)) (.cells #[.int .i64 0, .int .i64 0, .slice none 0 0] 40)
  rw [← hw1]
  clear hw1
  refine (checkLean_any W H n (some ⟨g, o, none⟩) (W * H) c w1).mono ?_
  rintro e w2 ⟨rfl, hb2⟩
  rw [HQ.out]
  obtain ⟨p0, p1, p2, _, _, _⟩ := block3 (below_block hb2 q0)
  have Q2 := Lib.hid (below_block hb2 q0)
  have QB2 := Lib.hid (below_block hb2 qb)
  have G2 := Lib.hid (below_step B1 hb2)
  clear hb2 B1 qb q0
  go_wp2_with fail
  refine (shifts_any W n w2 bW (by omega)).mono ?_
  rintro e w3 ⟨v, rfl, hown3, hb3⟩
  obtain ⟨sg, sc, rfl⟩ : ∃ sg sc, v = .slice (some ⟨sg, 0, none⟩) W sc := by
    rcases hown3.2 with ⟨_, h0⟩ | ⟨sg, cap, cur, h0, _⟩
    · omega
    · exact ⟨_, _, h0⟩
  have Q3 := Lib.hid (below_block hb3 Q2.out)
  have QB3 := Lib.hid (below_block hb3 QB2.out)
  have G3 := Lib.hid (below_step G2.out hb3)
  have O3 := Lib.hid hown3
  clear hb3 hown3 Q2 QB2 p0 p1 p2
  obtain ⟨p0, p1, p2, _, _, _⟩ := block3 Q3.out
  have l0 := World.block_lt_of_cell? _ _ p0
  simp only at l0
  go_wp2_with fail
  obtain ⟨w4, hw4⟩ : ∃ w4, w4 = w3.alloc (.cells #[.slice (some ⟨sg, 0, none⟩) W sc] 52) := ⟨_, rfl⟩
  have B4 : Below w3.heap.size w3 w4 := by rw [hw4]; exact new_below _ _
  have lb : w4.cell? ⟨w3.heap.size, 0, none⟩ = some (.slice (some ⟨sg, 0, none⟩) W sc) := by rw [hw4]; go_simp
  rw [← hw4]
  clear hw4
  have Q4 := Lib.hid (below_block B4 Q3.out)
  have QB4 := Lib.hid (below_block B4 QB3.out)
  have G4 := Lib.hid (below_step G3.out B4)
  have O4 := Lib.hid (below_owns O3.out B4)
  clear B4 Q3 QB3 G3 O3 p0 p1 p2
  refine (moved_any W H g o (W * H) c 75 _ (fun x y => atB W H z (x : Int) ((y : Int) - fallV W n x)) w4 bW bH hN (Go.Proofs.enters_of Try.func75 (by kernel_rfl) rfl) ?_).mono ?_
  · intro x y wx hx hy hbx
    obtain ⟨k0, k1, k2, _, _, _⟩ := block3 (below_block hbx Q4.out)
    have hcell := (below_owns O4.out hbx).cellAt x (by omega)
    rw [intsOf_get _ _ _ (by omega)] at hcell
    exact lean1_any W H w.heap.size w3.heap.size g o c sg sc x y (fallV W n) z wx bW.2 bH.2 hx hy (fallV_bounds (by omega) (by have := HN.out; omega) hx) k0 k1 k2 (cell_later hbx lb) hcell (fun j hj => cell_later (below_step G4.out hbx) (HC.out j hj))
  · rintro e w5 ⟨v, rfl, hown, hb5⟩
    obtain ⟨j0, j1, j2, r0, r1, r2⟩ := block3 (below_block hb5 QB4.out)
    have lt1 := Lib.hid (Array.getElem?_eq_some_iff.1 QB4.out).1
    have hsz := G4.out.size
    obtain ⟨va, vn, vc, rfl⟩ := owns_shape hown
    have F := Lib.hid hown
    have G := Lib.hid (below_step G4.out hb5)
    clear hown hb5 lb
    go_wp2_with fail
    refine bodyPost_ret (v := .tuple #[.agg #[.int .i64 W, .int .i64 H, .slice va vn vc], .int .i64 0]) (by simp [results, Try.results22, go_sem, j0, j1, j2]) rfl ⟨_, rfl, owns_far3 F.out lt1.out hsz, below_far3 G.out (by omega)⟩

end Go.Proofs.Ytofcojcfcpfdmaa
namespace Go.Proofs.Ytofcojcfcpfdmaa
open Go.RowKit
set_option linter.unusedSimpArgs false
set_option linter.unusedVariables false

/-- How much ink a row has before a column. -/
def bef (q : Nat → Nat → Bool) (y : Nat) : Nat → Nat
  | 0 => 0
  | x + 1 => bef q y x + (q x y).toNat
theorem bef_le (q : Nat → Nat → Bool) (y x : Nat) : bef q y x ≤ x := by
  induction x with
  | zero => exact Nat.le_refl _
  | succ x ih => rw [bef]; cases q x y <;> simp <;> omega
def befN (q : Nat → Nat → Bool) (h n i : Nat) : Int := if i < n then (bef q (i % h) (i / h) : Int) else 0

theorem idx_mod {h x y : Nat} (hy : y < h) : (x * h + y) % h = y ∧ (x * h + y) / h = x := by
  constructor
  · rw [Nat.add_comm, Nat.mul_comm, Nat.add_mul_mod_self_left, Nat.mod_eq_of_lt hy]
  · rw [Nat.add_comm, Nat.mul_comm, Nat.add_mul_div_left _ _ (by omega), Nat.div_eq_of_lt hy, Nat.zero_add]

set_option maxHeartbeats 1000000 in
set_option maxRecDepth 100000 in
theorem inkBefore_any (w h clo : Nat) (capt : Array Value) (q : Nat → Nat → Bool) (W0 : World) (hw : 1 ≤ w ∧ w ≤ 4000) (hh : 1 ≤ h ∧ h ≤ 4000) (hN : w * h ≤ 1048576)
    (eg : ∀ (args : Array Value) (W : World), (callFunc clo args).run Try.prog W = .ok (.enter clo args) W)
    (hc : ∀ (x y : Nat) (wx : World), x < w → y < h → Below W0.heap.size W0 wx → Calls Try.prog clo (#[.int .i64 x, .int .i64 y] ++ capt) wx fun e W' => e = .returned (.bool (q x y)) ∧ Below wx.heap.size wx W') :
    Calls Try.prog 144 #[.int .i64 w, .int .i64 h, .func (.func clo) #[] capt] W0 fun e w' =>
      ∃ g, e = .returned (.slice (some ⟨g, 0, none⟩) ((w + 1) * h) ((w + 1) * h)) ∧ W0.heap.size ≤ g ∧ (∀ x y, x ≤ w → y < h → w'.cell? ⟨g, x * h + y, none⟩ = some (.int .i64 (bef q y x : Int))) ∧ Below W0.heap.size W0 w' := by
  obtain ⟨i0, hi, hz0, hz1, hz2⟩ := info_parts info_int
  obtain ⟨M, hM⟩ : ∃ M, M = (w + 1) * h := ⟨_, rfl⟩
  have hM2 : M = w * h + h := by rw [hM, Nat.add_mul, Nat.one_mul]
  have hM3 : M ≤ 1100000 := by omega
  have e1 : ((w : Int) + 1) * (h : Int) = (M : Int) := by rw [hM, Int.natCast_mul]; rfl
  have HC := Lib.hid hc
  have HM := Lib.hid hM
  rw [← hM]
  clear hc hM hM2
  go_enter Try.func144, Try.ntmps144
  go_wp2_with (at_make; refine wpList_make_full _ rfl _ _ 52 rfl W0.heap.size 3 i0 (.int .i64 0) 1 Try.underlying52 hi hz0 hz1 _ _ _ _ M rfl rfl rfl rfl (by rw [hz2]; omega) (by unfold maxLen; omega) (by simp) ?_)
  intro w1 hown1 hgrow1
  rw [toList_madeCells_one, intsOf_zero] at hown1
  have hb1 := (Below.refl W0.heap.size _).grown hgrow1 (by simp) (by simp)
  have HST := Lib.hid (show w1.ownsRow W0.heap.size 3 1 (.slice (some ⟨W0.heap.size, 0, none⟩) M M) M (intsOf (befN q h (0 * h + h)) M) ∧ Below W0.heap.size W0 w1 from ⟨by
    rw [intsOf_congr (g := fun _ => 0) (fun j _ => by
      unfold befN
      split
      · rw [Nat.div_eq_of_lt (by omega)]; rfl
      · rfl)]
    exact hown1, hb1⟩)
  clear hgrow1 hb1 hown1 e1
  go_wp2_with fail
  go_loopw [17] (fun i wr => ∃ x : Nat, x ≤ w ∧ i = .int .i64 x ∧ Hid (wr.ownsRow W0.heap.size 3 1 (.slice (some ⟨W0.heap.size, 0, none⟩) M M) M (intsOf (befN q h (x * h + h)) M) ∧ Below W0.heap.size W0 wr)) (fun i _ => w - (intOf i).toNat)
  case atStart => exact ⟨0, Nat.zero_le _, rfl, HST⟩
  case round =>
    obtain ⟨x, hx, rfl, HR⟩ := hrel
    clear HST
    by_cases hlt : x < w
    · obtain ⟨wo, rfl⟩ : ∃ wo : World, wo = wr := ⟨_, rfl⟩
      have xh := row_fits hlt (show h ≤ h from Nat.le_refl _)
      rw [Nat.mul_comm h w] at xh
      go_wp2_with fail
      go_loopw [21] (fun i wr => ∃ y : Nat, y ≤ h ∧ i = .int .i64 y ∧ Hid (wr.ownsRow W0.heap.size 3 1 (.slice (some ⟨W0.heap.size, 0, none⟩) M M) M (intsOf (befN q h (x * h + h + y)) M) ∧ Below W0.heap.size W0 wr)) (fun i _ => h - (intOf i).toNat)
      case atStart => exact ⟨0, Nat.zero_le _, rfl, HR⟩
      case round =>
        obtain ⟨y, hy, rfl, HR2⟩ := hrel
        clear HR
        by_cases hlty : y < h
        · have hMw : M = w * h + h := by rw [HM.out, Nat.add_mul, Nat.one_mul]
          have t1 : x * h + y < M := by omega
          have t2 : x * h + h + y < M := by omega
          obtain ⟨d1, d2⟩ := idx_mod (x := x) hlty
          have c1 := HR2.out.1.cellAt (x * h + y) (by omega)
          rw [intsOf_get _ _ _ t1] at c1
          have hbv : befN q h (x * h + h + y) (x * h + y) = (bef q y x : Int) := by unfold befN; rw [if_pos (by omega), d1, d2]
          rw [hbv] at c1
          have ble := bef_le q y x
          obtain ⟨n, hn⟩ : ∃ n, n = bef q y x := ⟨_, rfl⟩
          rw [← hn] at c1 ble
          have l1 := World.block_lt_of_cell? _ _ c1
          simp only at l1
          have x0 : (0 : Int) ≤ (x : Int) * (h : Int) := Int.mul_nonneg (by omega) (by omega)
          have x1 : (x : Int) * (h : Int) + (y : Int) < (M : Int) := by rw [← Int.natCast_mul]; omega
          have x2 : ((x : Int) + 1) * (h : Int) + (y : Int) < (M : Int) := by rw [Int.add_mul, Int.one_mul, ← Int.natCast_mul]; omega
          have x3 : (0 : Int) ≤ ((x : Int) + 1) * (h : Int) := Int.mul_nonneg (by omega) (by omega)
          have tn : (((x : Int) + 1) * (h : Int) + (y : Int)).toNat = x * h + h + y := by rw [Int.add_mul, Int.one_mul, ← Int.natCast_mul]; omega
          have HN := Lib.hid hn
          have hnx : bef q y (x + 1) = n + (q x y).toNat := by rw [hn]; rfl
          have HNX := Lib.hid hnx
          have D := Lib.hid (show (x * h + y) % h = y ∧ (x * h + y) / h = x from ⟨d1, d2⟩)
          have MW := Lib.hid hMw
          have T := Lib.hid (show x * h + y < M ∧ x * h + h + y < M from ⟨t1, t2⟩)
          clear hn hnx hbv d1 d2 hMw t1 t2
          obtain ⟨qv, hqv⟩ : ∃ qv, qv = q x y := ⟨_, rfl⟩
          have hcl := HC.out x y wr hlt hlty HR2.out.2
          rw [← hqv] at hcl
          have HCL := Lib.hid hcl
          have HQ := Lib.hid hqv
          clear hcl hqv
          go_wp2_with fail
          refine HCL.out.mono ?_
          rintro e w2 ⟨rfl, hb2⟩
          have R2 := Lib.hid (show _ ∧ _ from ⟨below_owns HR2.out.1 hb2, HR2.out.2.trans (hb2.mono HR2.out.2.size)⟩)
          have c2 := R2.out.1.cellAt (x * h + h + y) (by have := T.out; omega)
          rw [intsOf_get _ _ _ T.out.2] at c2
          have f2 := R2.out.1.frozenAt (x * h + h + y)
          obtain ⟨z2, hz2⟩ : ∃ z2, z2 = befN q h (x * h + h + y) (x * h + h + y) := ⟨_, rfl⟩
          rw [← hz2] at c2
          have FIN := Lib.hid (fun (v : Int) (hv : v = (bef q y (x + 1) : Int)) => show ((w2.setCell ⟨W0.heap.size, x * h + h + y, none⟩ (.int .i64 v)).ownsRow W0.heap.size 3 1 (.slice (some ⟨W0.heap.size, 0, none⟩) M M) M (intsOf (befN q h (x * h + h + (y + 1))) M)) from by
            have h1 := (R2.out.1.stored (x * h + h + y) (.int .i64 v)).1
            obtain ⟨d3, d4⟩ := idx_mod (x := x + 1) hlty
            rw [Nat.add_mul, Nat.one_mul] at d3 d4
            rw [intsOf_set (g := befN q h (x * h + h + (y + 1))) T.out.2 (by unfold befN; rw [if_pos (by omega), d3, d4]; exact hv.symm) (fun i _ hne => by
              unfold befN
              by_cases h2 : i < x * h + h + y
              · rw [if_pos (by omega), if_pos h2]
              · rw [if_neg (by omega), if_neg h2])] at h1
            exact h1)
          clear hz2 hb2 c1 l1
          cases qv
          · go_wp2_with fail
            go_roundw
            case rel => exact ⟨y + 1, by omega, by go_num, Lib.hid ⟨FIN.out _ (by rw [HNX.out, ← HQ.out]; simp), R2.out.2.setCell (Nat.le_refl _) _⟩⟩
            case measure => simp [intOf]; omega
          · go_wp2_with fail
            go_roundw
            case rel => exact ⟨y + 1, by omega, by go_num, Lib.hid ⟨FIN.out _ (by rw [HNX.out, ← HQ.out]; simp), R2.out.2.setCell (Nat.le_refl _) _⟩⟩
            case measure => simp [intOf]; omega
        · have hye : y = h := by omega
          subst hye
          go_wp2_with fail
          go_roundw
          case rel => exact ⟨x + 1, by omega, by go_num, by rw [show (x + 1) * y + y = x * y + y + y by rw [Nat.add_mul, Nat.one_mul]]; exact HR2⟩
          case measure => simp [intOf]; omega
    · have hxe : x = w := by omega
      subst hxe
      go_wp2_with fail
      go_ret
      refine ⟨_, rfl, Nat.le_refl _, fun X Y hX hY => ?_, HR.out.2⟩
      have hMw : M = x * h + h := by rw [HM.out, Nat.add_mul, Nat.one_mul]
      have hfit := row_fits (show X < x + 1 by omega) (show Y + 1 ≤ h by omega)
      rw [Nat.mul_comm h, ← HM.out] at hfit
      have c1 := HR.out.1.cellAt (X * h + Y) (by omega)
      obtain ⟨d1, d2⟩ := idx_mod (x := X) hY
      rw [intsOf_get _ _ _ (by omega)] at c1
      unfold befN at c1
      rw [if_pos (by omega), d1, d2] at c1
      exact c1

end Go.Proofs.Ytofcojcfcpfdmaa
namespace Go.Proofs.Ytofcojcfcpfdmaa
open Go.RowKit
set_option linter.unusedSimpArgs false
set_option linter.unusedVariables false

/-- How many of a list are less. -/
def fewer (u : Int) (l : List Int) : Nat := l.countP fun v => decide (v < u)

/-- The middle value of a list. -/
def IsMid (l : List Int) (v : Int) : Prop := fewer v l ≤ (l.length - 1) / 2 ∧ (l.length - 1) / 2 < fewer (v + 1) l

theorem fewer_mono (l : List Int) {a b : Int} (h : a ≤ b) : fewer a l ≤ fewer b l := by
  unfold fewer
  apply List.countP_mono_left
  intro x _ hx
  simp at hx ⊢; omega

theorem IsMid.one {l : List Int} {a b : Int} (h : IsMid l a) (k : IsMid l b) : a = b := by
  rcases Int.lt_trichotomy a b with h1 | h1 | h1
  · have := fewer_mono l (show a + 1 ≤ b by omega)
    have := h.2; have := k.1; omega
  · exact h1
  · have := fewer_mono l (show b + 1 ≤ a by omega)
    have := h.1; have := k.2; omega

end Go.Proofs.Ytofcojcfcpfdmaa
namespace Go.Proofs.Ytofcojcfcpfdmaa
open Go.RowKit
set_option linter.unusedSimpArgs false
set_option linter.unusedVariables false

def smB (c : Int) : Bool := decide (97 ≤ c ∧ c ≤ 122)
def dgB (c : Int) : Bool := decide (48 ≤ c ∧ c ≤ 57)

theorem isSmall_any (c : Int) (w : World) : Calls Try.prog 106 #[.int .u8 c] w fun e w' => e = .returned (.bool (smB c)) ∧ w = w' := by
  by_cases h1 : 97 ≤ c
  · by_cases h2 : c ≤ 122
    · have H := Lib.hid (show smB c = true from decide_eq_true ⟨h1, h2⟩)
      go_enter Try.func106, Try.ntmps106
      go_wp2
      go_ret
      exact ⟨ret_bool H.out.symm, rfl⟩
    · have H := Lib.hid (show smB c = false from decide_eq_false (fun k => h2 k.2))
      go_enter Try.func106, Try.ntmps106
      go_wp2
      go_ret
      exact ⟨ret_bool H.out.symm, rfl⟩
  · have H := Lib.hid (show smB c = false from decide_eq_false (fun k => h1 k.1))
    go_enter Try.func106, Try.ntmps106
    go_wp2
    go_ret
    exact ⟨ret_bool H.out.symm, rfl⟩

theorem isDigit_any (c : Int) (w : World) : Calls Try.prog 107 #[.int .u8 c] w fun e w' => e = .returned (.bool (dgB c)) ∧ w = w' := by
  by_cases h1 : 48 ≤ c
  · by_cases h2 : c ≤ 57
    · have H := Lib.hid (show dgB c = true from decide_eq_true ⟨h1, h2⟩)
      go_enter Try.func107, Try.ntmps107
      go_wp2
      go_ret
      exact ⟨ret_bool H.out.symm, rfl⟩
    · have H := Lib.hid (show dgB c = false from decide_eq_false (fun k => h2 k.2))
      go_enter Try.func107, Try.ntmps107
      go_wp2
      go_ret
      exact ⟨ret_bool H.out.symm, rfl⟩
  · have H := Lib.hid (show dgB c = false from decide_eq_false (fun k => h1 k.1))
    go_enter Try.func107, Try.ntmps107
    go_wp2
    go_ret
    exact ⟨ret_bool H.out.symm, rfl⟩

/-- The byte at a place, as a number. -/
def byteAt (s : ByteArray) (k : Nat) : Int := ((s.data.toList.getD k 0).toNat : Int)
theorem byteAt_get (s : ByteArray) (k : Nat) (h : k < s.size) : (s[k].toNat : Int) = byteAt s k := by
  unfold byteAt
  rw [List.getD_eq_getElem?_getD, List.getElem?_eq_getElem (by simpa using h)]
  rfl

def goodB (s : ByteArray) (k : Nat) : Bool := smB (byteAt s k) || (decide (k ≠ 0) && (dgB (byteAt s k) || decide (byteAt s k = 45)))
def NameP (s : ByteArray) : Prop := (1 ≤ s.size ∧ s.size ≤ 40) ∧ ∀ k, k < s.size → goodB s k = true

/-- It returns a bool that says whether P. -/
def SaysIf (P : Prop) (w : World) (e : Ending) (w' : World) : Prop := ∃ q, e = .returned (.bool q) ∧ (q = true ↔ P) ∧ w = w'
theorem says_no {P : Prop} {w : World} (h : ¬ P) : SaysIf P w (.returned (.bool false)) w := ⟨false, rfl, by simp [h], rfl⟩
theorem says_yes {P : Prop} {w : World} (h : P) : SaysIf P w (.returned (.bool true)) w := ⟨true, rfl, by simp [h], rfl⟩

theorem good_next {s : ByteArray} {k : Nat} (h : Hid (∀ j, j < k → goodB s j = true)) (hk : Hid (goodB s k = true)) : Hid (∀ j, j < k + 1 → goodB s j = true) :=
  Lib.hid fun j hj => by
    by_cases e : j = k
    · rw [e]; exact hk.out
    · exact h.out j (by omega)

set_option maxHeartbeats 400000 in
theorem isName_any (s : ByteArray) (w : World) (hs : s.size ≤ 9223372036854775807) : Calls Try.prog 52 #[.string s] w (SaysIf (NameP s) w) := by
  by_cases h1 : 1 ≤ s.size
  · by_cases h2 : s.size ≤ 40
    · have d1 : decide ((s.size : Int) < 1) = false := by simp; omega
      have d2 : decide ((40 : Int) < (s.size : Int)) = false := by simp; omega
      have hlt0 : 0 < s.size := by omega
      have E0 := Lib.hid (byteAt_get s 0 hlt0)
      by_cases hb : smB (s[0].toNat : Int) = true
      · have HB := Lib.hid (show smB (byteAt s 0) = true by rw [← E0.out]; exact hb)
        have H1 := Lib.hid h1
        have H2 := Lib.hid h2
        clear h1 h2
        go_enter Try.func52, Try.ntmps52
        go_wp2_with (first | (go_at_call 106; refine (isSmall_any _ _).mono ?_; rintro e w' ⟨rfl, rfl⟩) | (go_at_call 107; refine (isDigit_any _ _).mono ?_; rintro e w' ⟨rfl, rfl⟩))
        clear hb
        go_loop [21] (fun i => ∃ k : Nat, k ≤ s.size ∧ i = .int .i64 k ∧ Hid (∀ j, j < k → goodB s j = true)) (fun i => s.size - (intOf i).toNat)
        case atStart => exact ⟨0, Nat.zero_le _, rfl, fun j hj => by omega⟩
        case round =>
          obtain ⟨k, hk, rfl, hG⟩ := hrel
          by_cases hlt : k < s.size
          · have E := Lib.hid (byteAt_get s k hlt)
            by_cases a1 : smB (s[k].toNat : Int) = true
            · have hg := Lib.hid (show goodB s k = true by unfold goodB; rw [← E.out, a1]; rfl)
              go_wp2_with (first | (go_at_call 106; refine (isSmall_any _ _).mono ?_; rintro e w' ⟨rfl, rfl⟩) | (go_at_call 107; refine (isDigit_any _ _).mono ?_; rintro e w' ⟨rfl, rfl⟩))
              go_round
              case rel => exact ⟨k + 1, by omega, by go_num, good_next hG hg⟩
              case measure => simp [intOf]; omega
            · have a1' : smB (s[k].toNat : Int) = false := by simpa using a1
              have K0 := Lib.hid (show k ≠ 0 from fun e => a1 (by subst e; rw [E.out]; exact HB.out))
              clear a1
              by_cases a2 : dgB (s[k].toNat : Int) = true
              · have hg := Lib.hid (show goodB s k = true by unfold goodB; rw [← E.out, a1', a2]; simp [K0.out])
                go_wp2_with (first | (go_at_call 106; refine (isSmall_any _ _).mono ?_; rintro e w' ⟨rfl, rfl⟩) | (go_at_call 107; refine (isDigit_any _ _).mono ?_; rintro e w' ⟨rfl, rfl⟩))
                go_round
                case rel => exact ⟨k + 1, by omega, by go_num, good_next hG hg⟩
                case measure => simp [intOf]; omega
              · have a2' : dgB (s[k].toNat : Int) = false := by simpa using a2
                clear a2
                by_cases a3 : (s[k].toNat : Int) = 45
                · have a3' : ((s[k].toNat : Int) != 45) = false := by simpa using a3
                  have hg := Lib.hid (show goodB s k = true by unfold goodB; rw [← E.out, a1', a2']; simp [K0.out]; omega)
                  clear a3
                  go_wp2_with (first | (go_at_call 106; refine (isSmall_any _ _).mono ?_; rintro e w' ⟨rfl, rfl⟩) | (go_at_call 107; refine (isDigit_any _ _).mono ?_; rintro e w' ⟨rfl, rfl⟩))
                  go_round
                  case rel => exact ⟨k + 1, by omega, by go_num, good_next hG hg⟩
                  case measure => simp [intOf]; omega
                · have a3' : ((s[k].toNat : Int) != 45) = true := by simpa using a3
                  have hg := Lib.hid (show goodB s k = false by unfold goodB; rw [← E.out, a1', a2']; simp; omega)
                  clear a3
                  go_wp2_with (first | (go_at_call 106; refine (isSmall_any _ _).mono ?_; rintro e w' ⟨rfl, rfl⟩) | (go_at_call 107; refine (isDigit_any _ _).mono ?_; rintro e w' ⟨rfl, rfl⟩))
                  go_ret
                  exact says_no (fun hP => by have := hP.2 k hlt; rw [hg.out] at this; cases this)
          · go_wp2_with (first | (go_at_call 106; refine (isSmall_any _ _).mono ?_; rintro e w' ⟨rfl, rfl⟩) | (go_at_call 107; refine (isDigit_any _ _).mono ?_; rintro e w' ⟨rfl, rfl⟩))
            go_ret
            exact says_yes ⟨⟨H1.out, H2.out⟩, fun j hj => hG.out j (by omega)⟩
      · have hb' : smB (s[0].toNat : Int) = false := by simpa using hb
        have HB := Lib.hid (show goodB s 0 = false by unfold goodB; rw [← E0.out, hb']; rfl)
        clear hb
        go_enter Try.func52, Try.ntmps52
        go_wp2_with (first | (go_at_call 106; refine (isSmall_any _ _).mono ?_; rintro e w' ⟨rfl, rfl⟩) | (go_at_call 107; refine (isDigit_any _ _).mono ?_; rintro e w' ⟨rfl, rfl⟩))
        go_ret
        exact says_no (fun hP => by have := hP.2 0 hlt0; rw [HB.out] at this; cases this)
    · go_enter Try.func52, Try.ntmps52
      go_wp2_with (first | (go_at_call 106; refine (isSmall_any _ _).mono ?_; rintro e w' ⟨rfl, rfl⟩) | (go_at_call 107; refine (isDigit_any _ _).mono ?_; rintro e w' ⟨rfl, rfl⟩))
      go_ret
      exact says_no (fun hP => by have := hP.1; omega)
  · go_enter Try.func52, Try.ntmps52
    go_wp2_with (first | (go_at_call 106; refine (isSmall_any _ _).mono ?_; rintro e w' ⟨rfl, rfl⟩) | (go_at_call 107; refine (isDigit_any _ _).mono ?_; rintro e w' ⟨rfl, rfl⟩))
    go_ret
    exact says_no (fun hP => by have := hP.1; omega)

end Go.Proofs.Ytofcojcfcpfdmaa
namespace Go.Proofs.Ytofcojcfcpfdmaa
open Go.RowKit
set_option linter.unusedSimpArgs false
set_option linter.unusedVariables false

/-- Two blocks of a world may have changed, and no other. -/
structure Kept (cb nb : Nat) (w w' : World) : Prop where
  os : w'.os = w.os
  tape : w'.tape = w.tape
  output : w'.output = w.output
  size : w'.heap.size = w.heap.size
  block : ∀ b, b ≠ cb → b ≠ nb → w'.heap[b]? = w.heap[b]?
theorem Kept.refl (cb nb : Nat) (w : World) : Kept cb nb w w := ⟨rfl, rfl, rfl, rfl, fun _ _ _ => rfl⟩
theorem Kept.trans {cb nb : Nat} {w a b : World} (h : Kept cb nb w a) (k : Kept cb nb a b) : Kept cb nb w b :=
  ⟨k.os.trans h.os, k.tape.trans h.tape, k.output.trans h.output, k.size.trans h.size, fun i h1 h2 => (k.block i h1 h2).trans (h.block i h1 h2)⟩
theorem setCell_else (w : World) (a : Addr) (v : Value) (b : Nat) (h : b ≠ a.block) : (w.setCell a v).heap[b]? = w.heap[b]? := by
  unfold World.setCell
  split <;> simp [Array.getElem?_modify, Ne.symm h]
theorem Kept.set {cb nb : Nat} {w a : World} (h : Kept cb nb w a) (p : Addr) (hp : p.block = cb ∨ p.block = nb) (v : Value) : Kept cb nb w (a.setCell p v) := by
  have hb : Below 0 a (a.setCell p v) := (Below.refl _ _).setCell (Nat.zero_le _) _
  refine ⟨hb.os.trans h.os, hb.tape.trans h.tape, hb.output.trans h.output, ?_, fun b h1 h2 => ?_⟩
  · rw [World.size_setCell]; exact h.size
  · rw [setCell_else _ _ _ _ (by rcases hp with e | e <;> rw [e] <;> assumption)]
    exact h.block b h1 h2
theorem Kept.cell {cb nb : Nat} {w a : World} (h : Kept cb nb w a) {b o : Nat} (hb : b ≠ cb ∧ b ≠ nb) {v : Value} (hc : w.cell? ⟨b, o, none⟩ = some v) : a.cell? ⟨b, o, none⟩ = some v := by
  rw [← hc]; simp only [World.cell?, h.block b hb.1 hb.2]
theorem Kept.below {cb nb B : Nat} {w a : World} (h : Kept cb nb w a) (h1 : B ≤ cb) (h2 : B ≤ nb) : Below B w a :=
  ⟨h.os, h.tape, h.output, Nat.le_of_eq h.size.symm, fun k hk => h.block k (by omega) (by omega)⟩

/-- The counts of the values, and of all. -/
def CountSt (cb nb : Nat) (S : Nat → Int) (n : Int) (w : World) : Prop :=
  (∃ arr t, w.heap[cb]? = some (.cells arr t (0, 0)) ∧ t ≠ 5 ∧ arr.size = 256 ∧ ∀ u, u < 256 → arr[u]? = some (.int .i64 (S u))) ∧ w.heap[nb]? = some (.cells #[.int .i64 n] 3 (0, 0))

theorem heap_set {w : World} {b o : Nat} {arr : Array Value} {t : TypeId} {fr : Nat × Nat} {v : Value} (h : w.heap[b]? = some (.cells arr t fr)) : (w.setCell ⟨b, o, none⟩ v).heap[b]? = some (.cells (arr.setIfInBounds o v) t fr) := by
  simp [World.setCell, Array.getElem?_modify, h]

theorem CountSt.get {cb nb u : Nat} {S : Nat → Int} {n : Int} {w : World} (h : CountSt cb nb S n w) (hu : u < 256) : w.cell? ⟨cb, u, none⟩ = some (.int .i64 (S u)) ∧ w.frozen? ⟨cb, u, none⟩ = false := by
  obtain ⟨⟨arr, t, h1, h2, h3, h4⟩, _⟩ := h
  exact ⟨by simp [World.cell?, h1, h4 u hu], by simp [World.frozen?, h1]⟩
theorem CountSt.step {cb nb q : Nat} {S S' : Nat → Int} {n n' x : Int} {w : World} (h : CountSt cb nb S n w) (hne : cb ≠ nb) (hq : q < 256) (hS : ∀ u, u < 256 → u ≠ q → S' u = S u) (hx : S' q = x) :
    CountSt cb nb S' n' ((w.setCell ⟨cb, q, none⟩ (.int .i64 x)).setCell ⟨nb, 0, none⟩ (.int .i64 n')) := by
  obtain ⟨⟨arr, t, h1, h2, h3, h4⟩, h5⟩ := h
  refine ⟨⟨arr.setIfInBounds q (.int .i64 x), t, ?_, h2, by simp [h3], fun u hu => ?_⟩, ?_⟩
  · rw [setCell_else _ _ _ _ (by simpa using hne)]
    exact heap_set h1
  · by_cases e : u = q
    · subst e; rw [hx]; simp [h3, hq]
    · rw [hS u hu e, Array.getElem?_setIfInBounds_ne (fun k => e k.symm)]; exact h4 u hu
  · have : (w.setCell ⟨cb, q, none⟩ (.int .i64 x)).heap[nb]? = some (.cells #[.int .i64 n] 3 (0, 0)) := by
      rw [setCell_else _ _ _ _ (by simpa using hne.symm)]; exact h5
    rw [heap_set this]; simp
theorem CountSt.congr {cb nb : Nat} {S S' : Nat → Int} {n : Int} {w : World} (h : CountSt cb nb S n w) (hS : ∀ u, u < 256 → S u = S' u) : CountSt cb nb S' n w := by
  obtain ⟨⟨arr, t, h1, h2, h3, h4⟩, h5⟩ := h
  exact ⟨⟨arr, t, h1, h2, h3, fun u hu => by rw [← hS u hu]; exact h4 u hu⟩, h5⟩

end Go.Proofs.Ytofcojcfcpfdmaa
namespace Go.Proofs.Ytofcojcfcpfdmaa
open Go.RowKit
set_option linter.unusedSimpArgs false
set_option linter.unusedVariables false

theorem box1 {w : World} {b : Nat} {x : Value} {t : TypeId} (h : w.heap[b]? = some (.cells #[x] t (0, 0))) : w.cell? ⟨b, 0, none⟩ = some x ∧ w.frozen? ⟨b, 0, none⟩ = false :=
  ⟨by rw [cell_of_row w b 0 _ t (0, 0) h]; rfl, frozen_of_row w b 0 _ t h⟩

@[local go_sem high] theorem run_max_ints3 {P : Program} (w : World) (ts : Array TypeId) (t : TypeId) (k k' k'' : IntKind) (x y z : Int) :
    (Builtin.max_ ts t #[.int k x, .int k' y, .int k'' z]).run P w = .ok (.int k (max (max x y) z)) w := by
  have e1 : (if y > x then y else x) = max x y := by
    rw [Int.max_def]
    split <;> split <;> omega
  have e2 : (if z > max x y then z else max x y) = max (max x y) z := by
    rw [Int.max_def (max x y)]
    split <;> split <;> omega
  simp [Builtin.max_, Builtin.max2, e1, e2]

end Go.Proofs.Ytofcojcfcpfdmaa
namespace Go.Proofs.Ytofcojcfcpfdmaa
open Go.RowKit
set_option linter.unusedSimpArgs false
set_option linter.unusedVariables false

/-- What stays while a row is made. -/
structure MidFr (gb tb db base : Nat) (w : World) (og ot od : Obj) (wr : World) : Prop where
  g : wr.heap[gb]? = some og
  t : wr.heap[tb]? = some ot
  d : wr.heap[db]? = some od
  b : Below base w wr
theorem MidFr.kept {gb tb db base cb nb : Nat} {w wr w' : World} {og ot od : Obj} (h : MidFr gb tb db base w og ot od wr) (k : Kept cb nb wr w') (hg : gb ≠ cb ∧ gb ≠ nb) (ht : tb ≠ cb ∧ tb ≠ nb) (hd : db ≠ cb ∧ db ≠ nb) (h1 : base ≤ cb) (h2 : base ≤ nb) : MidFr gb tb db base w og ot od w' :=
  ⟨(k.block _ hg.1 hg.2).trans h.g, (k.block _ ht.1 ht.2).trans h.t, (k.block _ hd.1 hd.2).trans h.d, h.b.trans (k.below h1 h2)⟩
theorem MidFr.grown {gb tb db base : Nat} {w wr w' : World} {og ot od : Obj} {row : Option Nat} (h : MidFr gb tb db base w og ot od wr) (k : wr.grownBy w' row) (hg : row ≠ some gb) (ht : row ≠ some tb) (hd : row ≠ some db) (hb : base ≤ wr.heap.size) (hr : ∀ i, row = some i → base ≤ i) : MidFr gb tb db base w og ot od w' :=
  ⟨grown_block k h.g (Ne.symm hg), grown_block k h.t (Ne.symm ht), grown_block k h.d (Ne.symm hd), h.b.grown k hb hr⟩
theorem CountSt.grown {cb nb : Nat} {S : Nat → Int} {n : Int} {w w' : World} {row : Option Nat} (h : CountSt cb nb S n w) (k : w.grownBy w' row) (h1 : row ≠ some cb) (h2 : row ≠ some nb) : CountSt cb nb S n w' := by
  obtain ⟨⟨arr, t, g1, g2, g3, g4⟩, g5⟩ := h
  exact ⟨⟨arr, t, grown_block k g1 (Ne.symm h1), g2, g3, g4⟩, grown_block k g5 (Ne.symm h2)⟩
end Go.Proofs.Ytofcojcfcpfdmaa
namespace Go.Proofs.Ytofcojcfcpfdmaa
open Go.RowKit
set_option linter.unusedSimpArgs false
set_option linter.unusedVariables false

/-- What is counted when n rows of a band are added. -/
def bandC (C L R : Nat → Int) (first : Int) (n j : Nat) : Int := C j + if 0 ≤ (j : Int) - first ∧ (j : Int) - first < (n : Int) then R ((j : Int) - first).toNat - L ((j : Int) - first).toNat else 0

theorem bandC_zero (C L R : Nat → Int) (first : Int) (j : Nat) : bandC C L R first 0 j = C j := by
  unfold bandC; rw [if_neg (by omega), Int.add_zero]
theorem bandC_other {C L R : Nat → Int} {first : Int} {n j : Nat} (h : (j : Int) ≠ first + n) : bandC C L R first (n + 1) j = bandC C L R first n j := by
  unfold bandC
  by_cases h1 : 0 ≤ (j : Int) - first ∧ (j : Int) - first < (n : Int)
  · rw [if_pos (by omega), if_pos h1]
  · rw [if_neg (by omega), if_neg h1]
theorem bandC_here {C L R : Nat → Int} {first : Int} {n j : Nat} (h : (j : Int) = first + n) : bandC C L R first n j = C j ∧ bandC C L R first (n + 1) j = C j + (R n - L n) := by
  unfold bandC
  have e : ((j : Int) - first).toNat = n := by omega
  rw [if_neg (by omega), if_pos (by omega), e]
  simp

theorem Kept.drew {cb nb : Nat} {w a : World} (h : Kept cb nb w a) : Kept cb nb w a.drew := ⟨h.os, h.tape, h.output, h.size, h.block⟩
theorem kept_set {g : Nat} {w a : World} (h : Kept g g w a) (o : Nat) (v : Value) : Kept g g w (a.setCell ⟨g, o, none⟩ v) := h.set _ (.inl rfl) _

set_option maxHeartbeats 1000000 in
set_option maxRecDepth 100000 in
theorem addBand_any (m h g ab lo ro lc rc cc base : Nat) (first : Int) (C L R : Nat → Int) (w : World) (hm : m ≤ 8000) (hh : h ≤ 4000) (hf : -5000 ≤ first ∧ first ≤ 10000) (hne : ab ≠ g)
    (hC : ∀ j, -1000000 ≤ C j ∧ C j ≤ 1000000) (hL : ∀ j, 0 ≤ L j ∧ L j ≤ 4000) (hR : ∀ j, 0 ≤ R j ∧ R j ≤ 4000)
    (hown : w.ownsRow base 3 1 (.slice (some ⟨g, 0, none⟩) m cc) m (intsOf C m)) (hl : ∀ y, y < h → w.cell? ⟨ab, lo + y, none⟩ = some (.int .i64 (L y))) (hr : ∀ y, y < h → w.cell? ⟨ab, ro + y, none⟩ = some (.int .i64 (R y))) :
    Calls Try.prog 149 #[.slice (some ⟨g, 0, none⟩) m cc, .slice (some ⟨ab, lo, none⟩) h lc, .slice (some ⟨ab, ro, none⟩) h rc, .int .i64 first] w fun e w' =>
      e = .returned (.tuple #[]) ∧ w'.ownsRow base 3 1 (.slice (some ⟨g, 0, none⟩) m cc) m (intsOf (bandC C L R first h) m) ∧ Kept g g w w' := by
  have HC := Lib.hid hC
  have HL := Lib.hid hL
  have HR := Lib.hid hR
  have HO := Lib.hid hown
  have Hl := Lib.hid hl
  have Hr := Lib.hid hr
  have NE := Lib.hid hne
  clear hC hL hR hown hl hr hne
  obtain ⟨f1, f2⟩ := hf
  go_enter Try.func149, Try.ntmps149
  go_wp2_with fail
  go_loopw [13] (fun i wr => ∃ y : Nat, y ≤ h ∧ i = .int .i64 y ∧ Hid (wr.ownsRow base 3 1 (.slice (some ⟨g, 0, none⟩) m cc) m (intsOf (bandC C L R first y) m) ∧ Kept g g w wr)) (fun i _ => h - (intOf i).toNat)
  case atStart => exact ⟨0, Nat.zero_le _, rfl, Lib.hid ⟨by rw [intsOf_congr (g := C) (fun j _ => bandC_zero C L R first j)]; exact HO.out, Kept.refl _ _ _⟩⟩
  case round =>
    obtain ⟨y, hy, rfl, HX⟩ := hrel
    by_cases hlt : y < h
    · have k1 := HX.out.2.cell ⟨NE.out, NE.out⟩ (Hl.out y hlt)
      have k2 := HX.out.2.cell ⟨NE.out, NE.out⟩ (Hr.out y hlt)
      obtain ⟨l, hl⟩ : ∃ l, l = L y := ⟨_, rfl⟩
      obtain ⟨r, hr⟩ : ∃ r, r = R y := ⟨_, rfl⟩
      have bl := HL.out y
      have br := HR.out y
      rw [← hl] at k1 bl
      rw [← hr] at k2 br
      obtain ⟨bl1, bl2⟩ := bl
      obtain ⟨br1, br2⟩ := br
      have i1 : (y : Int) < (h : Int) := by omega
      by_cases hin : 0 ≤ first + (y : Int) ∧ first + (y : Int) < (m : Int)
      · obtain ⟨J, hJ⟩ : ∃ J : Nat, (J : Int) = first + (y : Int) := ⟨(first + (y : Int)).toNat, by omega⟩
        obtain ⟨e1, e2⟩ := bandC_here (C := C) (L := L) (R := R) hJ
        have hJm : J < m := by omega
        have c1 := HX.out.1.cellAt J (by omega)
        rw [intsOf_get _ _ _ hJm, e1] at c1
        have f1 := HX.out.1.frozenAt J
        have bC := HC.out J
        obtain ⟨cv, hcv⟩ : ∃ cv, cv = C J := ⟨_, rfl⟩
        rw [← hcv] at c1 bC
        obtain ⟨bc1, bc2⟩ := bC
        have hJ' : first + (y : Int) = (J : Int) := hJ.symm
        have hJm' : (J : Int) < (m : Int) := by omega
        have FIN := Lib.hid (show ((wr.setCell ⟨g, J, none⟩ (.int .i64 (cv + (r - l)))).ownsRow base 3 1 (.slice (some ⟨g, 0, none⟩) m cc) m (intsOf (bandC C L R first (y + 1)) m)) from by
          have h1 := (HX.out.1.stored J (.int .i64 (cv + (r - l)))).1
          rw [intsOf_set (g := bandC C L R first (y + 1)) hJm (by rw [e2, ← hcv, ← hl, ← hr]) (fun i _ hne => bandC_other (by omega))] at h1
          exact h1)
        clear hl hr e1 e2 hcv hJ hin
        go_wp2_with fail
        go_region
        all_goals
          go_wp2_with fail
          go_roundw
          case rel => exact ⟨y + 1, by omega, by go_num, Lib.hid ⟨below_owns FIN.out (Below.refl _ _).drew, (kept_set HX.out.2 _ _).drew⟩⟩
          case measure => simp [intOf]; omega
      · have FIN := Lib.hid (show wr.ownsRow base 3 1 (.slice (some ⟨g, 0, none⟩) m cc) m (intsOf (bandC C L R first (y + 1)) m) from by
          rw [intsOf_congr (g := bandC C L R first y) (fun j hj => bandC_other (by omega))]; exact HX.out.1)
        clear hl hr
        by_cases h0 : 0 ≤ first + (y : Int)
        · have h1 : ¬ first + (y : Int) < (m : Int) := fun k => hin ⟨h0, k⟩
          clear hin
          go_wp2_with fail
          go_roundw
          case rel => exact ⟨y + 1, by omega, by go_num, Lib.hid ⟨FIN.out, HX.out.2⟩⟩
          case measure => simp [intOf]; omega
        · clear hin
          go_wp2_with fail
          go_roundw
          case rel => exact ⟨y + 1, by omega, by go_num, Lib.hid ⟨FIN.out, HX.out.2⟩⟩
          case measure => simp [intOf]; omega
    · have hye : y = h := by omega
      subst hye
      go_wp2_with fail
      go_end0
      exact ⟨rfl, HX.out.1, HX.out.2⟩

end Go.Proofs.Ytofcojcfcpfdmaa
namespace Go.Proofs.Ytofcojcfcpfdmaa
open Go.RowKit
set_option linter.unusedSimpArgs false
set_option linter.unusedVariables false

/-- Columns that go equally far. -/
def Band (s : Nat → Int) (L f t : Nat) : Prop := (t ≤ L ∧ f < t ∧ ∀ k, f ≤ k → k < t → s k = s f) ∨ (t = L + 1 ∧ f = L)

set_option maxHeartbeats 1000000 in
set_option maxRecDepth 100000 in
theorem eachBand_any (L sg sc clo : Nat) (capt : Array Value) (s : Nat → Int) (I : Nat → World → Prop) (W0 : World) (hL : 1 ≤ L ∧ L ≤ 4000)
    (eg : ∀ (args : Array Value) (W : World), (callFunc clo args).run Try.prog W = .ok (.enter clo args) W)
    (hI : ∀ f wr, I f wr → ∀ k, k < L → wr.cell? ⟨sg, k, none⟩ = some (.int .i64 (s k))) (hD : ∀ f wr, I f wr → ∀ n, I f (wr.drewN n)) (h0 : I 0 W0)
    (hc : ∀ f t wr, f < t → t ≤ L → (∀ k, f ≤ k → k < t → s k = s f) → I f wr → Calls Try.prog clo (#[.int .i64 f, .int .i64 t, .int .i64 (s f)] ++ capt) wr fun e w' => e = .returned (.tuple #[]) ∧ I t w') :
    Calls Try.prog 147 #[.slice (some ⟨sg, 0, none⟩) L sc, .func (.func clo) #[] capt] W0 fun e w' => e = .returned (.tuple #[]) ∧ I L w' := by
  have HC := Lib.hid hc
  have HI := Lib.hid hI
  have HD := Lib.hid hD
  have H0 := Lib.hid h0
  clear hc hI hD h0
  obtain ⟨L1, L2⟩ := hL
  go_enter Try.func147, Try.ntmps147
  go_wp2_with fail
  go_loopw [4, 5] (fun a b wr => ∃ f t : Nat, Hid (Band s L f t) ∧ t ≤ L + 1 ∧ f ≤ L ∧ a = .int .i64 f ∧ b = .int .i64 t ∧ Hid (I f wr)) (fun _ b _ => L + 2 - (intOf b).toNat)
  case atStart => exact ⟨0, 1, Lib.hid (.inl ⟨by omega, by omega, fun k h1 h2 => by rw [show k = 0 by omega]⟩), by omega, by omega, rfl, rfl, H0⟩
  case round =>
    obtain ⟨f, t, HB, ht1, hfL, rfl, rfl, HX⟩ := hrel
    clear H0
    by_cases htL : t ≤ L
    · obtain ⟨_, hft, heq⟩ : t ≤ L ∧ f < t ∧ ∀ k, f ≤ k → k < t → s k = s f := by
        rcases HB.out with h | h
        · exact h
        · omega
      have EQ := Lib.hid heq
      have hf1 : f < L := by omega
      have cf := HI.out f wr HX.out f hf1
      clear heq HB
      have i1 : (f : Int) < (L : Int) := by omega
      by_cases hte : t = L
      · have b1 : ((t : Int) == (L : Int)) = true := by simp; omega
        have HTE := Lib.hid hte
        clear hte
        go_wp2_with fail
        go_quiet (fail)
        go_wp2_with fail
        refine (HC.out f t _ hft htL EQ.out (HD.out f wr HX.out _)).mono ?_
        rintro e w2 ⟨rfl, hi2⟩
        have HI2 := Lib.hid hi2
        clear hi2
        go_wp2_with fail
        go_roundw
        case rel => exact ⟨t, t + 1, Lib.hid (.inr ⟨by have := HTE.out; omega, HTE.out⟩), by omega, by omega, rfl, by go_num, HI2⟩
        case measure => simp [intOf]; omega
      · have b1 : ((t : Int) == (L : Int)) = false := by simp; omega
        have ht2 : t < L := by omega
        have ct := HI.out f wr HX.out t ht2
        have i2 : (t : Int) < (L : Int) := by omega
        by_cases hs : s t = s f
        · have b2 : (s t != s f) = false := by simp [hs]
          have HSE := Lib.hid hs
          clear hs
          go_wp2_with fail
          go_quiet (fail)
          go_wp2_with fail
          go_roundw
          case rel =>
            refine ⟨f, t + 1, Lib.hid (.inl ⟨by omega, by omega, fun k h1 h2 => ?_⟩), by omega, by omega, rfl, by go_num, Lib.hid (HD.out f wr HX.out _)⟩
            by_cases e : k = t
            · rw [e]; exact HSE.out
            · exact EQ.out k h1 (by omega)
          case measure => simp [intOf]; omega
        · have b2 : (s t != s f) = true := by simp [hs]
          have HSE := Lib.hid hs
          clear hs
          go_wp2_with fail
          go_quiet (fail)
          go_wp2_with fail
          refine (HC.out f t _ hft htL EQ.out (HD.out f wr HX.out _)).mono ?_
          rintro e w2 ⟨rfl, hi2⟩
          have HI2 := Lib.hid hi2
          clear hi2
          go_wp2_with fail
          go_roundw
          case rel => exact ⟨t, t + 1, Lib.hid (.inl ⟨by omega, by omega, fun k h1 h2 => by rw [show k = t by omega]⟩), by omega, by omega, rfl, by go_num, HI2⟩
          case measure => simp [intOf]; omega
    · have hfe : f = L := by
        rcases HB.out with h | h
        · omega
        · exact h.2
      have hte : t = L + 1 := by omega
      subst hfe
      subst hte
      go_wp2_with fail
      go_end0
      exact ⟨rfl, HX.out⟩

end Go.Proofs.Ytofcojcfcpfdmaa
namespace Go.Proofs.Ytofcojcfcpfdmaa
open Go.RowKit
set_option linter.unusedSimpArgs false
set_option linter.unusedVariables false

/-- The ink of a column at a row, which may lie beyond the page. -/
def hitC (q : Nat → Nat → Bool) (h : Nat) (k : Int) (x : Nat) : Nat := if 0 ≤ k ∧ k < (h : Int) then (q x k.toNat).toNat else 0
/-- How much ink of the first m columns a row has when each goes down. -/
def profUp (q : Nat → Nat → Bool) (h : Nat) (s : Nat → Int) (c : Int) (j : Nat) : Nat → Nat
  | 0 => 0
  | m + 1 => profUp q h s c j m + hitC q h ((j : Int) - (c + s m)) m

theorem hitC_le (q : Nat → Nat → Bool) (h : Nat) (k : Int) (x : Nat) : hitC q h k x ≤ 1 := by
  unfold hitC; split
  · cases q x k.toNat <;> simp
  · omega
theorem profUp_le (q : Nat → Nat → Bool) (h : Nat) (s : Nat → Int) (c : Int) (j m : Nat) : profUp q h s c j m ≤ m := by
  induction m with
  | zero => exact Nat.le_refl _
  | succ m ih => rw [profUp]; have := hitC_le q h ((j : Int) - (c + s m)) m; omega

theorem prof_band (q : Nat → Nat → Bool) (h : Nat) (s : Nat → Int) (c : Int) (f j : Nat) (t : Nat) (hft : f ≤ t) (hs : ∀ k, f ≤ k → k < t → s k = s f) :
    (profUp q h s c j t : Int) = bandC (fun j => (profUp q h s c j f : Int)) (fun y => (bef q y f : Int)) (fun y => (bef q y t : Int)) (c + s f) h j := by
  induction t with
  | zero =>
    obtain rfl : f = 0 := by omega
    unfold bandC; simp
  | succ t ih =>
    by_cases e : f = t + 1
    · subst e; unfold bandC; simp
    · have ih := ih (by omega) (fun k h1 h2 => hs k h1 (by omega))
      have e2 := hs t (by omega) (by omega)
      rw [profUp, e2, Int.natCast_add, ih]
      unfold bandC hitC
      by_cases hin : 0 ≤ (j : Int) - (c + s f) ∧ (j : Int) - (c + s f) < (h : Int)
      · rw [if_pos hin, if_pos hin, if_pos hin]
        simp only [bef]
        omega
      · rw [if_neg hin, if_neg hin, if_neg hin]; omega

set_option maxHeartbeats 400000 in
theorem column_any (x h w1 bb hb ab ac M : Nat) (w : World) (hx : x ≤ w1) (hw : w1 ≤ 4000) (hh : 1 ≤ h ∧ h ≤ 4000) (hM : M = (w1 + 1) * h) (hM2 : M ≤ 1100000) (h0 : w.cell? ⟨bb, 0, none⟩ = some (.slice (some ⟨ab, 0, none⟩) M M)) (h1 : w.cell? ⟨hb, 0, none⟩ = some (.int .i64 h)) :
    Calls Try.prog 145 #[.int .i64 x, .pointer (some ⟨bb, 0, none⟩), .pointer (some ⟨hb, 0, none⟩)] w fun e w' => e = .returned (.slice (some ⟨ab, x * h, none⟩) h (M - x * h)) ∧ w = w' := by
  have hfit := row_fits (show x < w1 + 1 by omega) (show h ≤ h from Nat.le_refl _)
  rw [Nat.mul_comm h, ← hM] at hfit
  obtain ⟨hh1, hh2⟩ := hh
  have x0 : (0 : Int) ≤ (x : Int) * (h : Int) := Int.mul_nonneg (by omega) (by omega)
  have x1 : (x : Int) * (h : Int) ≤ (M : Int) := by rw [← Int.natCast_mul]; omega
  have x2 : ((x : Int) + 1) * (h : Int) ≤ (M : Int) := by rw [Int.add_mul, Int.one_mul, ← Int.natCast_mul]; omega
  have x3 : (x : Int) * (h : Int) ≤ ((x : Int) + 1) * (h : Int) := by rw [Int.add_mul, Int.one_mul]; omega
  have x4 : (0 : Int) ≤ ((x : Int) + 1) * (h : Int) := by omega
  clear hM
  go_enter Try.func145, Try.ntmps145
  go_wp2_with fail
  go_ret
  exact ⟨by rw [show (x + 1) * h - x * h = h by rw [Nat.add_mul, Nat.one_mul]; omega]; rfl, rfl⟩

set_option maxHeartbeats 1000000 in
set_option maxRecDepth 100000 in
theorem band_any (w1 h f t kb cb hb bb ab ac M g m base : Nat) (q : Nat → Nat → Bool) (s : Nat → Int) (w : World) (hw : w1 ≤ 4000) (hh : 1 ≤ h ∧ h ≤ 4000) (hM : M = (w1 + 1) * h) (hM2 : M ≤ 1100000) (hm : m ≤ 8000) (hft : f < t) (ht : t ≤ w1) (hs : ∀ k, f ≤ k → k < t → s k = s f) (hsb : -1100 ≤ s f ∧ s f ≤ 1100)
    (hne : kb ≠ g ∧ cb ≠ g ∧ hb ≠ g ∧ bb ≠ g ∧ ab ≠ g)
    (h0 : w.cell? ⟨kb, 0, none⟩ = some (.slice (some ⟨g, 0, none⟩) m m)) (h1 : w.cell? ⟨cb, 0, none⟩ = some (.func (.func 145) #[] #[.pointer (some ⟨bb, 0, none⟩), .pointer (some ⟨hb, 0, none⟩)])) (h2 : w.cell? ⟨hb, 0, none⟩ = some (.int .i64 h))
    (h3 : w.cell? ⟨bb, 0, none⟩ = some (.slice (some ⟨ab, 0, none⟩) M M)) (hb4 : ∀ x y, x ≤ w1 → y < h → w.cell? ⟨ab, x * h + y, none⟩ = some (.int .i64 (bef q y x : Int)))
    (hown : w.ownsRow base 3 1 (.slice (some ⟨g, 0, none⟩) m m) m (intsOf (fun j => (profUp q h s ((h / 2 : Nat) : Int) j f : Int)) m)) :
    Calls Try.prog 148 #[.int .i64 f, .int .i64 t, .int .i64 (s f), .pointer (some ⟨kb, 0, none⟩), .pointer (some ⟨cb, 0, none⟩), .pointer (some ⟨hb, 0, none⟩)] w fun e w' =>
      e = .returned (.tuple #[]) ∧ w'.ownsRow base 3 1 (.slice (some ⟨g, 0, none⟩) m m) m (intsOf (fun j => (profUp q h s ((h / 2 : Nat) : Int) j t : Int)) m) ∧ Kept g g w w' := by
  obtain ⟨d, hd⟩ : ∃ d, d = s f := ⟨_, rfl⟩
  obtain ⟨c, hc⟩ : ∃ c, c = h / 2 := ⟨_, rfl⟩
  have hpb := fun j => prof_band q h s (c : Int) f j t (by omega) hs
  rw [← hc] at hown ⊢
  rw [← hd] at hsb hpb ⊢
  obtain ⟨d1, d2⟩ := hsb
  have hc2 : c ≤ 2000 := by omega
  have e1 : IntKind.i64.wrap ((h : Int) / 2) = (c : Int) := by rw [IntWalk.i64_in _ (by omega)]; omega
  have e2 : IntKind.i64.wrap ((c : Int) + d) = (c : Int) + d := IntWalk.i64_in _ (by omega)
  have HAB := Lib.hid (addBand_any m h g ab (f * h) (t * h) (M - f * h) (M - t * h) m base ((c : Int) + d) (fun j => (profUp q h s (c : Int) j f : Int)) (fun y => (bef q y f : Int)) (fun y => (bef q y t : Int)) w.drew hm hh.2 (by omega) hne.2.2.2.2
    (fun j => by have := profUp_le q h s (c : Int) j f; omega) (fun y => by have := bef_le q y f; omega) (fun y => by have := bef_le q y t; omega) (below_owns hown (Below.refl _ _).drew) (fun y hy => hb4 f y (by omega) hy) (fun y hy => hb4 t y ht hy))
  have HPB := Lib.hid hpb
  have NE := Lib.hid hne
  have HM := Lib.hid hM
  clear hpb hb4 hown hs hc hd hne hM
  go_enter Try.func148, Try.ntmps148
  go_wp2_with fail
  go_region_held3 (fun w' => w'.cell? ⟨kb, 0, none⟩ = some (.slice (some ⟨g, 0, none⟩) m m) ∧ w'.cell? ⟨cb, 0, none⟩ = some (.func (.func 145) #[] #[.pointer (some ⟨bb, 0, none⟩), .pointer (some ⟨hb, 0, none⟩)]) ∧ w'.cell? ⟨hb, 0, none⟩ = some (.int .i64 h) ∧ w'.cell? ⟨bb, 0, none⟩ = some (.slice (some ⟨ab, 0, none⟩) M M))
    (first | (go_keep; done) | (go_split_ands; exact ⟨hk5.cell ⟨NE.out.1, NE.out.1⟩ (by assumption), hk5.cell ⟨NE.out.2.1, NE.out.2.1⟩ (by assumption), hk5.cell ⟨NE.out.2.2.1, NE.out.2.2.1⟩ (by assumption), hk5.cell ⟨NE.out.2.2.2.1, NE.out.2.2.2.1⟩ (by assumption)⟩))
    ((first | ((first | go_at_call 145 | go_at_fn 145); ((with_reducible refine (column_any f h w1 bb hb ab ac M _ (by omega) hw hh HM.out hM2 ?_ ?_).mono ?_); (go_split_ands; assumption); (go_split_ands; assumption); rintro e w' ⟨rfl, rfl⟩)) | ((first | go_at_call 145 | go_at_fn 145); ((with_reducible refine (column_any t h w1 bb hb ab ac M _ ht hw hh HM.out hM2 ?_ ?_).mono ?_); (go_split_ands; assumption); (go_split_ands; assumption); rintro e w' ⟨rfl, rfl⟩)) | (go_at_call 149; ((with_reducible refine HAB.out.mono ?_); rintro e w5 ⟨rfl, ho5, hk5⟩))))
  go_wp2_with fail
  go_end0
  exact ⟨rfl, by rw [intsOf_congr (fun j _ => HPB.out j)]; exact ho5, (Kept.refl g g w).drew.trans hk5⟩

end Go.Proofs.Ytofcojcfcpfdmaa
