/-
  What greys_holds leans on: contracts of the functions that it calls.
-/
import Derived.Test.YtofcojcfcpfdmaaRows
import Derived.WalkKit
import Derived.WalkSpells
import Derived.WalkLawsBesides
import Derived.Lib.Hide
import Derived.Deep.RegionHeld3
import Derived.Shelf.Abstract
import Derived.Lib.MinMax
import Derived.Deep.QuietTactic
import Derived.BigQuiet
import Derived.Deep.CutRange
import Derived.Deep.DeepCutAuto
import Derived.Laws.EntriesVeiled
import Derived.StillTailTactics
import Derived.Deep.AppendLies
import Derived.Deep.DrawnRows
import Derived.Deep.RegionLaw
import Derived.ProofKit
import Derived.OpenShut
import Derived.ShutString
import Derived.ChangeOld
import Derived.Lib.SmallJoins
import Derived.Deep.Grids
import Derived.RegionTactic
import Derived.ChangeAlike
import Derived.BigRegion
import Derived.Test.YtofcojcfcpfdmaaCGreys1
namespace Go.Proofs.Ytofcojcfcpfdmaa
open Go.RowKit
set_option linter.unusedSimpArgs false
set_option linter.unusedVariables false

/-- A box is in a page of W by H. -/
def InP (X Y bw bh : Int) (W H : Int) : Prop := (0 ≤ X ∧ X ≤ W - 1) ∧ (0 ≤ Y ∧ Y ≤ H - 1) ∧ (1 ≤ bw ∧ bw ≤ W - X) ∧ (1 ≤ bh ∧ bh ≤ H - Y)

end Go.Proofs.Ytofcojcfcpfdmaa
namespace Go.Proofs.Ytofcojcfcpfdmaa
open Go.RowKit
set_option linter.unusedSimpArgs false
set_option linter.unusedVariables false
attribute [local go_sem ↓] Go.wp_at_zero Go.wp_at_succ

theorem owns_shape {w : World} {base : Nat} {e : TypeId} {size : Nat} {v : Value} {n : Nat} {xs : List Value} (h : w.ownsRow base e size v n xs) : ∃ a l c, v = .slice a l c := by
  rcases h.2 with ⟨h0, _⟩ | ⟨g, cap, cur, h0, _⟩
  · exact ⟨_, _, _, h0⟩
  · exact ⟨_, _, _, h0⟩

end Go.Proofs.Ytofcojcfcpfdmaa
namespace Go.Proofs.Ytofcojcfcpfdmaa
open Go.RowKit
set_option linter.unusedSimpArgs false
set_option linter.unusedVariables false

theorem mask_nat (a : Int) (m : Nat) (hm : m < 4294967296) : ∃ A : Nat, A ≤ m ∧ bits .and .i64 a (m : Int) = (A : Int) := by
  refine ⟨(BitVec.ofInt 64 a).toNat &&& m, Nat.and_le_right, ?_⟩
  have hle : (BitVec.ofInt 64 a).toNat &&& m ≤ m := Nat.and_le_right
  show IntKind.i64.wrap ((BitVec.ofInt 64 a &&& BitVec.ofInt 64 (m : Int)).toNat : Int) = _
  rw [BitVec.toNat_and, BitVec.ofInt_natCast, BitVec.toNat_ofNat, Nat.mod_eq_of_lt (by omega)]
  exact IntWalk.i64_in _ (by omega)

/-- The value of a fitted page at a place. -/
def fitAt (P : Nat → Int) (n w x y : Nat) : Int := if n = 0 then 200 else P ((y * w + x) % n)

theorem fitGray1_any (x y W n gb wb : Nat) (a b : Int) (s : Option Addr) (c : Nat) (zs : List Int) (w : World) (hW : W ≤ 16) (hx : x < W) (hy : y < 16) (hn : n ≤ 9223372036854775807) (hs : IsBytes w s n c zs)
    (h2 : w.cell? ⟨gb, 2, none⟩ = some (.slice s n c)) (h3 : w.cell? ⟨wb, 0, none⟩ = some (.int .i64 W)) :
    Calls Try.prog 54 #[.int .i64 x, .int .i64 y, .pointer (some ⟨gb, 0, none⟩), .pointer (some ⟨wb, 0, none⟩)] w fun e w' => e = .returned (.int .u8 (fitAt (fun j => zs.getD j 0) n W x y)) ∧ Below w.heap.size w w' := by
  by_cases h0 : n = 0
  · subst h0
    go_enter Try.func54, Try.ntmps54
    go_wp2
    go_ret
    exact ⟨rfl, Below.refl _ _⟩
  · obtain ⟨pb, po, rfl, hc, hP⟩ := isBytes_cells hs (by omega)
    have hlt := Nat.mod_lt (y * W + x) (show 0 < n by omega)
    have hcell := hc _ hlt
    have hN := Nat.mul_le_mul (show y ≤ 16 by omega) hW
    have x0 : (0 : Int) ≤ (y : Int) * (W : Int) := Int.mul_nonneg (by omega) (by omega)
    have x1 : (y : Int) * (W : Int) ≤ 256 := by rw [← Int.natCast_mul]; omega
    have hm : ((y : Int) * (W : Int) + (x : Int)) % (n : Int) = (((y * W + x) % n : Nat) : Int) := by simp [Int.natCast_mul]
    have hF := Lib.hid (show fitAt (fun j => zs.getD j 0) n W x y = zs.getD ((y * W + x) % n) 0 by unfold fitAt; rw [if_neg h0])
    have h1 : 1 ≤ n := by omega
    obtain ⟨q, hq⟩ : ∃ q, q = (y * W + x) % n := ⟨_, rfl⟩
    rw [← hq] at hcell hm hlt hF
    obtain ⟨p, hp⟩ : ∃ p, p = zs.getD q 0 := ⟨_, rfl⟩
    rw [← hp] at hcell hF
    have e0 : ((n : Int) == 0) = false := by simpa using h0
    have HQ := Lib.hid hq
    have HP := Lib.hid hp
    clear hq hp hN hc hs h0 hP
    go_enter Try.func54, Try.ntmps54
    go_wp2
    go_quiet (fail)
    go_wp2
    go_ret
    exact ⟨by rw [hF.out]; rfl, below_drewN (Below.refl _ _) _⟩

/-- What fitGray returns: a right page of at most 16 by 16 values. -/
def FittedY (w : World) (e : Ending) (w' : World) : Prop :=
  ∃ (W H g c : Nat) (z : Nat → Int), e = .returned (.agg #[.int .i64 W, .int .i64 H, .slice (some ⟨g, 0, none⟩) (W * H) c]) ∧ (1 ≤ W ∧ W ≤ 16 ∧ 1 ≤ H ∧ H ≤ 16) ∧ (∀ j, 0 ≤ z j ∧ z j ≤ 255) ∧
    (∀ j, j < W * H → w'.cell? ⟨g, 0 + j, none⟩ = some (.int .u8 (z j))) ∧ w.heap.size ≤ g ∧ Below w.heap.size w w'

theorem fitAt_bounds {P : Nat → Int} (hP : ∀ j, 0 ≤ P j ∧ P j ≤ 255) (n w x y : Nat) : 0 ≤ fitAt P n w x y ∧ fitAt P n w x y ≤ 255 := by
  unfold fitAt
  split
  · omega
  · exact hP _

theorem bytes_bounds {w : World} {s : Option Addr} {n c : Nat} {zs : List Int} (hs : IsBytes w s n c zs) (j : Nat) : 0 ≤ zs.getD j 0 ∧ zs.getD j 0 ≤ 255 := by
  rcases hs with ⟨_, _, _, rfl⟩ | ⟨x, _, _, _, _, hwf⟩
  · simp
  · by_cases hj : j < zs.length
    · have hm : zs.getD j 0 ∈ zs := by rw [List.getD_eq_getElem?_getD, List.getElem?_eq_getElem hj]; exact List.getElem_mem hj
      have hmin : IntKind.u8.min = 0 := rfl
      have hmax : IntKind.u8.max = 255 := rfl
      have := hwf _ hm
      simp only [Lit.wf, Bool.and_eq_true, decide_eq_true_eq] at this
      omega
    · rw [List.getD_eq_getElem?_getD, List.getElem?_eq_none (by omega)]
      simp

theorem owns_pageY {w : World} {base : Nat} {v : Value} {N bw : Nat} {f : Nat → Nat → Int} (h : w.ownsRow base 5 1 v N ((places bw f N).map (Value.int .u8))) (hN : 1 ≤ N) :
    ∃ g c, v = .slice (some ⟨g, 0, none⟩) N c ∧ base ≤ g ∧ ∀ j, j < N → w.cell? ⟨g, 0 + j, none⟩ = some (.int .u8 (f (j % bw) (j / bw))) := by
  rcases h.2 with ⟨_, h0⟩ | ⟨g, c, cur, rfl, hg, _⟩
  · omega
  · exact ⟨g, c, rfl, hg, fun j hj => by rw [Nat.zero_add, h.cellAt j (by omega)]; simp [places, List.getElem?_range hj]⟩

set_option maxHeartbeats 800000 in
set_option maxRecDepth 100000 in
theorem fitGray_any (a b : Int) (s : Option Addr) (n c : Nat) (zs : List Int) (w : World) (hn : n ≤ 9223372036854775807) (hs : IsBytes w s n c zs) :
    Calls Try.prog 8 #[.agg #[.int .i64 a, .int .i64 b, .slice s n c]] w (FittedY w) := by
  have hmf : ∀ (fn : Fn) (first cap : Array Value) (w : World), (Instr.makeFunc fn first cap).run Try.prog w = .ok (.func fn first cap) w := fun _ _ _ _ => rfl
  obtain ⟨A, hA, eA⟩ := mask_nat a 15 (by decide)
  obtain ⟨C, hC, eC⟩ := mask_nat b 15 (by decide)
  have eA' : bits .and .i64 a 15 = (A : Int) := eA
  have eC' : bits .and .i64 b 15 = (C : Int) := eC
  obtain ⟨W, hW⟩ : ∃ W : Nat, (1 : Int) + (A : Int) = (W : Int) := ⟨1 + A, by omega⟩
  obtain ⟨H, hH⟩ : ∃ H : Nat, (1 : Int) + (C : Int) = (H : Int) := ⟨1 + C, by omega⟩
  have bW : 1 ≤ W ∧ W ≤ 16 := by omega
  have bH : 1 ≤ H ∧ H ≤ 16 := by omega
  have hN := Nat.mul_le_mul bW.2 bH.2
  have HS := Lib.hid hs
  have HN := Lib.hid hN
  clear hs eA eC hN
  go_enter Try.func8, Try.ntmps8
  go_wp2_with fail
  go_region
  go_wp2_with fail
  obtain ⟨w1, hw1⟩ : ∃ w1, w1 = (((w.alloc (.cells #[.int .i64 a, .int .i64 b, .slice s n c] 24)).alloc (.cells #[.int .i64 0, .int .i64 0, .slice none 0 0] 24)).alloc (.cells #[.int .i64 W] 3)).drew := ⟨_, rfl⟩
  have B1 : Below w.heap.size w w1 := by rw [hw1]; exact (below_alloc (below_alloc (new_below _ _) _) _).drew
  have q2 : w1.cell? ⟨w.heap.size, 2, none⟩ = some (.slice s n c) := by rw [hw1]; go_simp
  have q3 : w1.cell? ⟨w.heap.size + 1 + 1, 0, none⟩ = some (.int .i64 W) := by rw [hw1]; go_simp
  have qb : w1.heap[w.heap.size + 1]? = some (.cells #[.int .i64 0, .int .i64 0, .slice none 0 0] 24 (0, 0)) := by
    rw [hw1, (show ∀ u : World, u.drew.heap = u.heap from fun _ => rfl), Below.heap_alloc _ _ _ (by simp)]
    simpa using heap_alloc_new (w.alloc (.cells #[.int .i64 a, .int .i64 b, .slice s n c] 24)) (.cells #[.int .i64 0, .int .i64 0, .slice none 0 0] 24)
  rw [← hw1]
  clear hw1
  have LQ := Lib.hid (Array.getElem?_eq_some_iff.1 qb).1
  refine (madeGray_any W H 54 _ (fitAt (fun j => zs.getD j 0) n W) w1 (by omega) (by omega) (by omega) (by have := HN.out; omega) (Go.Proofs.enters_of Try.func54 (by kernel_rfl) rfl) ?_).mono ?_
  · intro x y wx hx hy hbx
    exact fitGray1_any x y W n w.heap.size (w.heap.size + 1 + 1) a b s c zs wx (by omega) hx (by omega) hn (isBytes_later HS.out (below_step B1 hbx)) (cell_later hbx q2) (cell_later hbx q3)
  · rintro e w5 ⟨v, rfl, hown, hb5⟩
    have hpos := Nat.mul_pos bW.1 bH.1
    obtain ⟨g, cc, rfl, hg, hcell⟩ := owns_pageY hown hpos
    obtain ⟨j0, j1, j2, r0, r1, r2⟩ := block3 (below_block hb5 qb)
    have F := Lib.hid hcell
    have G := Lib.hid hb5
    have B2 := Lib.hid B1
    have bb := bytes_bounds HS.out
    clear hown hb5 hcell hW hH eA' eC' q2 q3 B1
    go_wp2_with fail
    refine bodyPost_ret (v := .agg #[.int .i64 W, .int .i64 H, .slice (some ⟨g, 0, none⟩) (W * H) cc]) (by simp [results, Try.results8, go_sem, j0, j1, j2]) rfl ?_
    have hl := LQ.out
    refine ⟨W, H, g, cc, fun j => fitAt (fun j => zs.getD j 0) n W (j % W) (j / W), rfl, ⟨bW.1, bW.2, bH.1, bH.2⟩, ?_, ?_, Nat.le_trans B2.out.size hg, ?_⟩
    · exact fun j => fitAt_bounds (P := fun j => zs.getD j 0) bb n W (j % W) (j / W)
    · intro j hj
      exact cell_far3 (by simp; omega) (F.out j hj)
    · exact below_far3 (below_step B2.out G.out) (by omega)

end Go.Proofs.Ytofcojcfcpfdmaa
namespace Go.Proofs.Ytofcojcfcpfdmaa
open Go.RowKit
set_option linter.unusedSimpArgs false
set_option linter.unusedVariables false

set_option maxRecDepth 100000 in
theorem equalByte_true (g1 o1 g2 o2 n c1 c2 : Nat) (z : Nat → Int) (w : World) (hn : n ≤ 100000000)
    (h1 : ∀ j, j < n → w.cell? ⟨g1, o1 + j, none⟩ = some (.int .u8 (z j))) (h2 : ∀ j, j < n → w.cell? ⟨g2, o2 + j, none⟩ = some (.int .u8 (z j))) :
    Calls Try.prog 108 #[.slice (some ⟨g1, o1, none⟩) n c1, .slice (some ⟨g2, o2, none⟩) n c2] w fun e w' => e = .returned (.bool true) ∧ ∃ q, w' = w.drewN q := by
  have H1 := Lib.hid h1
  have H2 := Lib.hid h2
  clear h1 h2
  go_enter Try.func108, Try.ntmps108
  go_wp2
  go_loopw [13] (fun i wr => ∃ k q : Nat, k ≤ n ∧ i = .int .i64 k ∧ wr = w.drewN q) (fun i _ => n - (intOf i).toNat)
  case atStart => exact ⟨0, 0, Nat.zero_le _, rfl, rfl⟩
  case round =>
    obtain ⟨k, q, hk, rfl, rfl⟩ := hrel
    by_cases hlt : k < n
    · have e1 := H1.out k hlt
      have e2 := H2.out k hlt
      generalize z k = x at e1 e2
      have i1 : (k : Int) < (n : Int) := by omega
      have i0 : (0 : Int) ≤ (k : Int) := by omega
      go_wp2
      go_quiet (fail)
      go_wp2
      go_roundw
      case rel => exact ⟨k + 1, _, by omega, by go_num, rfl⟩
      case measure => simp [intOf]; omega
    · go_wp2
      go_ret
      exact ⟨rfl, q, rfl⟩

end Go.Proofs.Ytofcojcfcpfdmaa
namespace Go.Proofs.Ytofcojcfcpfdmaa
open Go.RowKit
set_option linter.unusedSimpArgs false
set_option linter.unusedVariables false
attribute [local go_sem ↓] Go.wp_at_zero Go.wp_at_succ

theorem sameGray_true (W H : Int) (g1 o1 g2 o2 n c1 c2 : Nat) (z : Nat → Int) (w : World) (hn : n ≤ 100000000)
    (h1 : ∀ j, j < n → w.cell? ⟨g1, o1 + j, none⟩ = some (.int .u8 (z j))) (h2 : ∀ j, j < n → w.cell? ⟨g2, o2 + j, none⟩ = some (.int .u8 (z j))) :
    Calls Try.prog 62 #[.agg #[.int .i64 W, .int .i64 H, .slice (some ⟨g1, o1, none⟩) n c1], .agg #[.int .i64 W, .int .i64 H, .slice (some ⟨g2, o2, none⟩) n c2]] w fun e w' => e = .returned (.bool true) ∧ Below w.heap.size w w' := by
  have HE := Lib.hid (equalByte_true g1 o1 g2 o2 n c1 c2 z ((w.alloc (.cells #[.int .i64 W, .int .i64 H, .slice (some ⟨g1, o1, none⟩) n c1] 24)).alloc (.cells #[.int .i64 W, .int .i64 H, .slice (some ⟨g2, o2, none⟩) n c2] 24)) hn
    (fun j hj => cell_later (below_alloc (new_below _ _) _) (h1 j hj)) (fun j hj => cell_later (below_alloc (new_below _ _) _) (h2 j hj)))
  clear h1 h2
  go_enter Try.func62, Try.ntmps62
  go_wp2_with (go_at_call 108; refine HE.out.mono ?_; rintro e w1 ⟨rfl, q, rfl⟩)
  go_ret
  exact ⟨rfl, below_drewN (below_alloc (new_below _ _) _) q⟩

end Go.Proofs.Ytofcojcfcpfdmaa
namespace Go.Proofs.Ytofcojcfcpfdmaa
open Go.RowKit
set_option linter.unusedSimpArgs false
set_option linter.unusedVariables false

instance (X Y bw bh W H : Int) : Decidable (InP X Y bw bh W H) := by unfold InP; infer_instance

/-- The error of a cut: of the page, else of the box. -/
def cutErr (a b : Int) (n : Nat) (X Y bw bh : Int) : Int := if pageErr a b n = 0 then (if InP X Y bw bh a b then 0 else 13) else pageErr a b n

/-- What a cut is, in memory: nothing with an error; else the places of the box. -/
def CutIs (a b : Int) (n : Nat) (X Y bw bh : Int) (z : Nat → Bool) (B : Nat) (w : World) (i j : Int) (sl : Option Addr) (n' c' : Nat) : Prop :=
  (cutErr a b n X Y bw bh ≠ 0 ∧ i = 0 ∧ j = 0 ∧ sl = none ∧ n' = 0 ∧ c' = 0) ∨
  (cutErr a b n X Y bw bh = 0 ∧ i = bw ∧ j = bh ∧ n' = bw.toNat * bh.toNat ∧ ∃ g, B ≤ g ∧ sl = some ⟨g, 0, none⟩ ∧ ∀ k, k < n' → w.cell? ⟨g, 0 + k, none⟩ = some (.bool (z ((Y.toNat + k / bw.toNat) * a.toNat + X.toNat + k % bw.toNat))))

theorem CutIs.later {a b : Int} {n : Nat} {X Y bw bh : Int} {z : Nat → Bool} {B : Nat} {w w' : World} {i j : Int} {sl : Option Addr} {n' c' : Nat} (h : CutIs a b n X Y bw bh z B w i j sl n' c') (hb : Below w.heap.size w w') : CutIs a b n X Y bw bh z B w' i j sl n' c' := by
  rcases h with h | ⟨h1, h2, h3, h4, g, h5, h6, h7⟩
  · exact .inl h
  · exact .inr ⟨h1, h2, h3, h4, g, h5, h6, fun k hk => cell_later hb (h7 k hk)⟩
theorem CutIs.far3 {a b : Int} {n : Nat} {X Y bw bh : Int} {z : Nat → Bool} {B N : Nat} {w : World} {i j : Int} {sl : Option Addr} {n' c' : Nat} (h : CutIs a b n X Y bw bh z B w i j sl n' c') (hN : N < B) (x y u : Value) : CutIs a b n X Y bw bh z B (((w.setCell ⟨N, 0, none⟩ x).setCell ⟨N, 1, none⟩ y).setCell ⟨N, 2, none⟩ u) i j sl n' c' := by
  rcases h with h | ⟨h1, h2, h3, h4, g, h5, h6, h7⟩
  · exact .inl h
  · exact .inr ⟨h1, h2, h3, h4, g, h5, h6, fun k hk => cell_far3 (show g ≠ N by omega) (h7 k hk)⟩

end Go.Proofs.Ytofcojcfcpfdmaa
namespace Go.Proofs.Ytofcojcfcpfdmaa
open Go.RowKit
set_option linter.unusedSimpArgs false
set_option linter.unusedVariables false

set_option maxHeartbeats 400000 in
theorem valueAt_any (cb k : Nat) (S : Nat → Nat) (w : World) (hk : k < sumTo S 256) (hk' : k ≤ 1000000) (hS : ∀ u, S u ≤ 1000000) (hc : ∀ u, u < 256 → w.cell? ⟨cb, u, none⟩ = some (.int .i64 ((S u : Nat) : Int))) :
    Calls Try.prog 110 #[.pointer (some ⟨cb, 0, none⟩), .int .i64 (k : Int)] w fun e w' => (∃ v : Nat, v < 256 ∧ sumTo S v ≤ k ∧ k < sumTo S (v + 1) ∧ e = .returned (.int .u8 (v : Int))) ∧ w = w' := by
  have HC := Lib.hid hc
  have HS := Lib.hid hS
  clear hc hS
  go_enter Try.func110, Try.ntmps110
  go_wp2_with fail
  go_loop [1, 5] (fun p v => ∃ i : Nat, i < 256 ∧ sumTo S i ≤ k ∧ v = .int .i64 (i : Int) ∧ p = .int .i64 (((k - sumTo S i : Nat)) : Int)) (fun _ v => 256 - (intOf v).toNat)
  case atStart => exact ⟨0, by omega, Nat.zero_le _, rfl, rfl⟩
  case round =>
    obtain ⟨i, hi, hle, rfl, rfl⟩ := hrel
    have c1 := HC.out i hi
    have c2 := HS.out i
    have hs : sumTo S (i + 1) = sumTo S i + S i := rfl
    obtain ⟨q, hq⟩ : ∃ q, q = k - sumTo S i := ⟨_, rfl⟩
    have hq' : q ≤ 1000000 := by omega
    by_cases hlt : S i ≤ q
    · have h1 : i + 1 < 256 := by
        have := sumTo_mono S (show i + 1 ≤ 256 by omega)
        by_cases h : i + 1 = 256
        · rw [h] at hs; omega
        · omega
      have hq2 : q - S i = k - sumTo S (i + 1) := by omega
      have HQ := Lib.hid hq2
      have HI := Lib.hid (show sumTo S (i + 1) ≤ k by omega)
      rw [← hq]
      clear hq hs hle hq2
      go_wp2_with fail
      go_round
      case rel => exact ⟨i + 1, h1, HI.out, by go_num, by rw [← HQ.out]; congr 1; omega⟩
      case measure => simp [intOf]; omega
    · have HI := Lib.hid (show k < sumTo S (i + 1) by omega)
      rw [← hq]
      clear hq hs
      go_wp2_with fail
      go_ret
      exact ⟨⟨i, hi, hle, HI.out, rfl⟩, rfl⟩

end Go.Proofs.Ytofcojcfcpfdmaa
namespace Go.Proofs.Ytofcojcfcpfdmaa
open Go.RowKit
set_option linter.unusedSimpArgs false
set_option linter.unusedVariables false

/-- Two blocks of a world may have changed, and no other. -/
structure Kept (cb nb : Nat) (w w' : World) : Prop where
  os : w'.os = w.os
  tape : w'.tape = w.tape
  output : w'.output = w.output
  size : w'.heap.size = w.heap.size
  block : ∀ b, b ≠ cb → b ≠ nb → w'.heap[b]? = w.heap[b]?
theorem Kept.refl (cb nb : Nat) (w : World) : Kept cb nb w w := ⟨rfl, rfl, rfl, rfl, fun _ _ _ => rfl⟩
theorem Kept.trans {cb nb : Nat} {w a b : World} (h : Kept cb nb w a) (k : Kept cb nb a b) : Kept cb nb w b :=
  ⟨k.os.trans h.os, k.tape.trans h.tape, k.output.trans h.output, k.size.trans h.size, fun i h1 h2 => (k.block i h1 h2).trans (h.block i h1 h2)⟩
theorem setCell_else (w : World) (a : Addr) (v : Value) (b : Nat) (h : b ≠ a.block) : (w.setCell a v).heap[b]? = w.heap[b]? := by
  unfold World.setCell
  split <;> simp [Array.getElem?_modify, Ne.symm h]
theorem Kept.set {cb nb : Nat} {w a : World} (h : Kept cb nb w a) (p : Addr) (hp : p.block = cb ∨ p.block = nb) (v : Value) : Kept cb nb w (a.setCell p v) := by
  have hb : Below 0 a (a.setCell p v) := (Below.refl _ _).setCell (Nat.zero_le _) _
  refine ⟨hb.os.trans h.os, hb.tape.trans h.tape, hb.output.trans h.output, ?_, fun b h1 h2 => ?_⟩
  · rw [World.size_setCell]; exact h.size
  · rw [setCell_else _ _ _ _ (by rcases hp with e | e <;> rw [e] <;> assumption)]
    exact h.block b h1 h2
theorem Kept.cell {cb nb : Nat} {w a : World} (h : Kept cb nb w a) {b o : Nat} (hb : b ≠ cb ∧ b ≠ nb) {v : Value} (hc : w.cell? ⟨b, o, none⟩ = some v) : a.cell? ⟨b, o, none⟩ = some v := by
  rw [← hc]; simp only [World.cell?, h.block b hb.1 hb.2]
theorem Kept.below {cb nb B : Nat} {w a : World} (h : Kept cb nb w a) (h1 : B ≤ cb) (h2 : B ≤ nb) : Below B w a :=
  ⟨h.os, h.tape, h.output, Nat.le_of_eq h.size.symm, fun k hk => h.block k (by omega) (by omega)⟩

/-- The counts of the values, and of all. -/
def CountSt (cb nb : Nat) (S : Nat → Int) (n : Int) (w : World) : Prop :=
  (∃ arr t, w.heap[cb]? = some (.cells arr t (0, 0)) ∧ t ≠ 5 ∧ arr.size = 256 ∧ ∀ u, u < 256 → arr[u]? = some (.int .i64 (S u))) ∧ w.heap[nb]? = some (.cells #[.int .i64 n] 3 (0, 0))

theorem heap_set {w : World} {b o : Nat} {arr : Array Value} {t : TypeId} {fr : Nat × Nat} {v : Value} (h : w.heap[b]? = some (.cells arr t fr)) : (w.setCell ⟨b, o, none⟩ v).heap[b]? = some (.cells (arr.setIfInBounds o v) t fr) := by
  simp [World.setCell, Array.getElem?_modify, h]

theorem CountSt.get {cb nb u : Nat} {S : Nat → Int} {n : Int} {w : World} (h : CountSt cb nb S n w) (hu : u < 256) : w.cell? ⟨cb, u, none⟩ = some (.int .i64 (S u)) ∧ w.frozen? ⟨cb, u, none⟩ = false := by
  obtain ⟨⟨arr, t, h1, h2, h3, h4⟩, _⟩ := h
  exact ⟨by simp [World.cell?, h1, h4 u hu], by simp [World.frozen?, h1]⟩
theorem CountSt.all {cb nb : Nat} {S : Nat → Int} {n : Int} {w : World} (h : CountSt cb nb S n w) : w.cell? ⟨nb, 0, none⟩ = some (.int .i64 n) ∧ w.frozen? ⟨nb, 0, none⟩ = false := by
  obtain ⟨_, h1⟩ := h
  exact ⟨by simp [World.cell?, h1], by simp [World.frozen?, h1]⟩
theorem CountSt.step {cb nb q : Nat} {S S' : Nat → Int} {n n' x : Int} {w : World} (h : CountSt cb nb S n w) (hne : cb ≠ nb) (hq : q < 256) (hS : ∀ u, u < 256 → u ≠ q → S' u = S u) (hx : S' q = x) :
    CountSt cb nb S' n' ((w.setCell ⟨cb, q, none⟩ (.int .i64 x)).setCell ⟨nb, 0, none⟩ (.int .i64 n')) := by
  obtain ⟨⟨arr, t, h1, h2, h3, h4⟩, h5⟩ := h
  refine ⟨⟨arr.setIfInBounds q (.int .i64 x), t, ?_, h2, by simp [h3], fun u hu => ?_⟩, ?_⟩
  · rw [setCell_else _ _ _ _ (by simpa using hne)]
    exact heap_set h1
  · by_cases e : u = q
    · subst e; rw [hx]; simp [h3, hq]
    · rw [hS u hu e, Array.getElem?_setIfInBounds_ne (fun k => e k.symm)]; exact h4 u hu
  · have : (w.setCell ⟨cb, q, none⟩ (.int .i64 x)).heap[nb]? = some (.cells #[.int .i64 n] 3 (0, 0)) := by
      rw [setCell_else _ _ _ _ (by simpa using hne.symm)]; exact h5
    rw [heap_set this]; simp
theorem CountSt.congr {cb nb : Nat} {S S' : Nat → Int} {n : Int} {w : World} (h : CountSt cb nb S n w) (hS : ∀ u, u < 256 → S u = S' u) : CountSt cb nb S' n w := by
  obtain ⟨⟨arr, t, h1, h2, h3, h4⟩, h5⟩ := h
  exact ⟨⟨arr, t, h1, h2, h3, fun u hu => by rw [← hS u hu]; exact h4 u hu⟩, h5⟩

theorem colCnt_le (P : Nat → Int) (W y x : Nat) (u : Int) (n : Nat) : colCnt P W y x u n ≤ n := by
  induction n with
  | zero => exact Nat.le_refl _
  | succ n ih => rw [colCnt]; split <;> omega

set_option maxHeartbeats 400000 in
theorem count_out (x d : Int) (gb tb bb cb nb W : Nat) (w : World) (hW : W ≤ 4000) (hx : ¬ (0 ≤ x ∧ x ≤ (W : Int) - 1)) (h0 : w.cell? ⟨gb, 0, none⟩ = some (.int .i64 W)) :
    Calls Try.prog 109 #[.int .i64 x, .int .i64 d, .pointer (some ⟨gb, 0, none⟩), .pointer (some ⟨tb, 0, none⟩), .pointer (some ⟨bb, 0, none⟩), .pointer (some ⟨cb, 0, none⟩), .pointer (some ⟨nb, 0, none⟩)] w fun e w' => e = .returned (.tuple #[]) ∧ w = w' := by
  have H1 := Lib.hid hx
  clear hx
  go_enter Try.func109, Try.ntmps109
  go_wp2_with ((go_at_call 56; (with_reducible refine (outside_yes _ 0 _ _ H1.out).mono ?_); rintro e w' ⟨rfl, rfl⟩))
  exact bodyPost_ret (v := .tuple #[]) (by simp [results, Try.results109, go_sem]) rfl ⟨rfl, rfl⟩

set_option maxHeartbeats 1000000 in
theorem count_in (W H x t k gb tb bb cb nb pb po c : Nat) (d n : Int) (P : Nat → Int) (S : Nat → Int) (w : World) (hW : W ≤ 4000) (hH : H ≤ 4000) (hN : W * H ≤ 1048576) (hx : x < W) (hk : t + k ≤ H) (hd : -1 ≤ d ∧ d ≤ 1) (hP : ∀ j, 0 ≤ P j ∧ P j ≤ 255)
    (hn : -100000000 ≤ n ∧ n ≤ 100000000) (hS : ∀ u, -100000000 ≤ S u ∧ S u ≤ 100000000) (hne : cb ≠ nb) (hg : gb ≠ cb ∧ gb ≠ nb) (ht : tb ≠ cb ∧ tb ≠ nb) (hb : bb ≠ cb ∧ bb ≠ nb) (hpb : pb ≠ cb ∧ pb ≠ nb)
    (h0 : w.cell? ⟨gb, 0, none⟩ = some (.int .i64 W)) (h2 : w.cell? ⟨gb, 2, none⟩ = some (.slice (some ⟨pb, po, none⟩) (W * H) c)) (h3 : w.cell? ⟨tb, 0, none⟩ = some (.int .i64 (t : Int))) (h4 : w.cell? ⟨bb, 0, none⟩ = some (.int .i64 ((t + k : Nat) : Int)))
    (hp : ∀ j, j < W * H → w.cell? ⟨pb, po + j, none⟩ = some (.int .u8 (P j))) (hst : CountSt cb nb S n w) :
    Calls Try.prog 109 #[.int .i64 x, .int .i64 d, .pointer (some ⟨gb, 0, none⟩), .pointer (some ⟨tb, 0, none⟩), .pointer (some ⟨bb, 0, none⟩), .pointer (some ⟨cb, 0, none⟩), .pointer (some ⟨nb, 0, none⟩)] w fun e w' =>
      e = .returned (.tuple #[]) ∧ CountSt cb nb (fun u => S u + d * (colCnt P W t x u k : Int)) (n + d * (k : Int)) w' ∧ Kept cb nb w w' := by
  have H1 := Lib.hid (show (0 : Int) ≤ (x : Int) ∧ (x : Int) ≤ (W : Int) - 1 by omega)
  have HP := Lib.hid hP
  have HS := Lib.hid hS
  have HC := Lib.hid hp
  have HT := Lib.hid hst
  have hNE := Lib.hid hne
  have hG := Lib.hid hg
  have hT := Lib.hid ht
  have hB := Lib.hid hb
  have hPB := Lib.hid hpb
  clear hP hS hp hst hne hg ht hb hpb
  go_enter Try.func109, Try.ntmps109
  go_wp2_with ((go_at_call 56; (with_reducible refine (outside_no _ 0 _ _ H1.out).mono ?_); rintro e w' ⟨rfl, rfl⟩))
  go_loopw [9] (fun r wr => ∃ i : Nat, i ≤ k ∧ r = .int .i64 ((t + i : Nat) : Int) ∧ Hid (CountSt cb nb (fun u => S u + d * (colCnt P W t x u i : Int)) (n + d * (i : Int)) wr ∧ Kept cb nb w wr)) (fun r _ => t + k - (intOf r).toNat)
  case atStart => exact ⟨0, by omega, rfl, Lib.hid ⟨by simpa [colCnt] using HT.out, Kept.refl _ _ _⟩⟩
  case round =>
    obtain ⟨i, hi, rfl, HH⟩ := hrel
    obtain ⟨y, hy⟩ : ∃ y, y = t + i := ⟨_, rfl⟩
    rw [← hy]
    have k0 := HH.out.2.cell hG.out h0
    have k2 := HH.out.2.cell hG.out h2
    have k3 := HH.out.2.cell hT.out h3
    have k4 := HH.out.2.cell hB.out h4
    by_cases hlt : i < k
    · have hfit := row_fits (show y < H by omega) (show x + 1 ≤ W by omega)
      have x0 : (0 : Int) ≤ (y : Int) * (W : Int) := Int.mul_nonneg (by omega) (by omega)
      have x1 : (y : Int) * (W : Int) + (x : Int) < ((W * H : Nat) : Int) := by rw [← Int.natCast_mul]; omega
      have x3 : (y : Int) * (W : Int) + (x : Int) < (W : Int) * (H : Int) := by rw [← Int.natCast_mul, ← Int.natCast_mul]; omega
      have x2 : ((W * H : Nat) : Int) ≤ 16000000 := by omega
      have kp := HH.out.2.cell hPB.out (HC.out (y * W + x) (by omega))
      obtain ⟨v, hv⟩ : ∃ v : Nat, P (y * W + x) = (v : Int) := ⟨(P (y * W + x)).toNat, by have := HP.out (y * W + x); omega⟩
      have hv2 : v < 256 := by have := HP.out (y * W + x); omega
      rw [hv] at kp
      have g1 := HH.out.1.get hv2
      have g2 := HH.out.1.all
      obtain ⟨C, hC⟩ : ∃ C, C = colCnt P W t x (v : Int) i := ⟨_, rfl⟩
      have hC2 : C ≤ i := by rw [hC]; exact colCnt_le _ _ _ _ _ _
      rw [← hC] at g1
      obtain ⟨s, hs⟩ : ∃ s, s = S v + d * (C : Int) := ⟨_, rfl⟩
      obtain ⟨m, hm⟩ : ∃ m, m = n + d * (i : Int) := ⟨_, rfl⟩
      have bs : -200000000 ≤ s ∧ s ≤ 200000000 := by
        have h1 := HS.out v
        have h2 : -(C : Int) ≤ d * (C : Int) ∧ d * (C : Int) ≤ (C : Int) := by
          rcases (show d = -1 ∨ d = 0 ∨ d = 1 by omega) with e | e | e <;> rw [e] <;> omega
        omega
      have bm : -200000000 ≤ m ∧ m ≤ 200000000 := by
        have h2 : -(i : Int) ≤ d * (i : Int) ∧ d * (i : Int) ≤ (i : Int) := by
          rcases (show d = -1 ∨ d = 0 ∨ d = 1 by omega) with e | e | e <;> rw [e] <;> omega
        omega
      rw [← hs] at g1
      rw [← hm] at g2
      obtain ⟨g1, f1⟩ := g1
      obtain ⟨g2, f2⟩ := g2
      have HY := Lib.hid hy
      have HV := Lib.hid hv
      have HCC := Lib.hid hC
      have HSS := Lib.hid hs
      have HM := Lib.hid hm
      have hyk : y < t + k := by omega
      have ne1 : nb ≠ cb := Ne.symm hNE.out
      have ne2 : cb ≠ nb := hNE.out
      clear hfit hN hy hv hC hs hm
      go_wp2_with fail
      go_roundw
      case rel =>
        have e1 : m + d = n + d * ((i + 1 : Nat) : Int) := by rw [HM.out, Int.natCast_add, Int.mul_add]; omega
        refine ⟨i + 1, by omega, by have := HY.out; go_num, Lib.hid ⟨?_, (HH.out.2.set _ (.inl rfl) _).set _ (.inr rfl) _⟩⟩
        rw [← e1]
        have hv := HV.out
        have hy := HY.out
        rw [hy] at hv
        refine HH.out.1.step hNE.out hv2 (fun u hu hne => ?_) ?_
        · simp only [colCnt]
          rw [hv, if_neg (by omega), Nat.add_zero]
        · simp only [colCnt]
          rw [hv, if_pos rfl, HSS.out, HCC.out, Int.natCast_add, Int.mul_add]
          omega
      case measure => simp [intOf]; omega
    · have : i = k := by omega
      subst this
      go_wp2_with fail
      go_end0
      exact ⟨rfl, HH.out⟩

end Go.Proofs.Ytofcojcfcpfdmaa
namespace Go.Proofs.Ytofcojcfcpfdmaa
open Go.RowKit
set_option linter.unusedSimpArgs false
set_option linter.unusedVariables false

/-- The greatest of the first n values that lie in a square of S by S, at least 1; 0 if none does. -/
def lightOf (P : Nat → Int) (W S u v : Nat) : Nat → Int
  | 0 => 0
  | n + 1 => if n % W / S = u ∧ n / W / S = v then max (max (lightOf P W S u v n) (P n)) 1 else lightOf P W S u v n

theorem lightOf_hit (P : Nat → Int) (W S u v n : Nat) (hu : n % W / S = u) (hv : n / W / S = v) : lightOf P W S u v (n + 1) = max (max (lightOf P W S u v n) (P n)) 1 := by
  rw [lightOf, if_pos ⟨hu, hv⟩]
theorem lightOf_miss (P : Nat → Int) (W S u v n : Nat) (h : ¬ (n % W / S = u ∧ n / W / S = v)) : lightOf P W S u v (n + 1) = lightOf P W S u v n := by
  rw [lightOf, if_neg h]
theorem lightOf_bounds (P : Nat → Int) (hP : ∀ j, 0 ≤ P j ∧ P j ≤ 255) (W S u v n : Nat) : 0 ≤ lightOf P W S u v n ∧ lightOf P W S u v n ≤ 255 := by
  induction n with
  | zero => simp [lightOf]
  | succ n ih =>
    have := hP n
    unfold lightOf
    split <;> omega
theorem lightOf_ge (P : Nat → Int) (W S u v n k : Nat) (hk : k < n) (hu : k % W / S = u) (hv : k / W / S = v) : P k ≤ lightOf P W S u v n ∧ 1 ≤ lightOf P W S u v n := by
  induction n with
  | zero => omega
  | succ n ih =>
    by_cases e : k = n
    · subst e
      rw [lightOf_hit P W S u v k hu hv]
      omega
    · have := ih (by omega)
      by_cases h : n % W / S = u ∧ n / W / S = v
      · rw [lightOf_hit P W S u v n h.1 h.2]
        omega
      · rw [lightOf_miss P W S u v n h]
        exact this

/-- A value of an evened page. -/
def evenV (p l : Int) : Int := (2 * (p * 255) + l) / (2 * l)
theorem evenV_bounds {p l : Int} (h0 : 0 ≤ p) (h1 : p ≤ l) (h2 : 1 ≤ l) : 0 ≤ evenV p l ∧ evenV p l ≤ 255 := by
  unfold evenV
  refine ⟨Int.ediv_nonneg (by omega) (by omega), ?_⟩
  exact Int.le_of_lt_add_one (Int.ediv_lt_of_lt_mul (by omega) (by omega))

theorem drew_drew (w : World) (a b : Nat) : (w.drewN a).drewN b = w.drewN (a + b) := by
  simp only [World.drewN, Nat.add_assoc]

set_option maxRecDepth 100000 in
theorem even1_any (x y a b d A S sb ab : Nat) (w : World) (hS : 1 ≤ S) (ha : x / S = a) (hb : y / S = b) (hd : d = b * A + a) (ha' : a ≤ 4000) (hA : A ≤ 4000) (hb' : b ≤ 4000) (hx' : x ≤ 64000) (hy' : y ≤ 64000) (hS' : S ≤ 4000)
    (c0 : w.cell? ⟨sb, 0, none⟩ = some (.int .i64 S)) (c1 : w.cell? ⟨ab, 0, none⟩ = some (.int .i64 A)) :
    Calls Try.prog 67 #[.int .i64 x, .int .i64 y, .pointer (some ⟨sb, 0, none⟩), .pointer (some ⟨ab, 0, none⟩)] w fun e w' => e = .returned (.int .i64 d) ∧ ∃ q, w.drewN q = w' := by
  have hm := Nat.mul_le_mul hb' hA
  obtain ⟨P, hP⟩ : ∃ P, P = b * A := ⟨_, rfl⟩
  have e1 : (b : Int) * (A : Int) = (P : Int) := by rw [hP, Int.natCast_mul]
  rw [← hP] at hm hd
  have e2 : (P : Int) + (a : Int) = (d : Int) := by omega
  have d1 : (x : Int) / (S : Int) = (a : Int) := by rw [← ha]; simp
  have d2 : (y : Int) / (S : Int) = (b : Int) := by rw [← hb]; simp
  clear hP hd ha hb
  go_enter Try.func67, Try.ntmps67
  go_wp2
  go_quiet (fail)
  go_wp2
  go_ret
  exact ⟨rfl, _, rfl⟩

set_option maxHeartbeats 1000000 in
set_option maxRecDepth 100000 in
theorem even2_any (W H n D x y d gb pb po c lb qb gl m cl sb ab S A : Nat) (p L : Int) (w : World) (hW : W ≤ 4000) (hH : H ≤ 4000) (hx : x < W) (hy : y < H) (hn : n = W * H) (hD : D = y * W + x) (hS : 1 ≤ S) (hS' : S ≤ 4000) (hA : A ≤ 4000) (hd : d = y / S * A + x / S) (hdm : d < m) (hm : m ≤ 16000000)
    (h0 : w.cell? ⟨gb, 0, none⟩ = some (.int .i64 W)) (h2 : w.cell? ⟨gb, 2, none⟩ = some (.slice (some ⟨pb, po, none⟩) n c)) (h3 : w.cell? ⟨lb, 0, none⟩ = some (.slice (some ⟨gl, 0, none⟩) m cl)) (h4 : w.cell? ⟨qb, 0, none⟩ = some (.func (.func 67) #[] #[.pointer (some ⟨sb, 0, none⟩), .pointer (some ⟨ab, 0, none⟩)]))
    (h5 : w.cell? ⟨sb, 0, none⟩ = some (.int .i64 S)) (h6 : w.cell? ⟨ab, 0, none⟩ = some (.int .i64 A))
    (hp : w.cell? ⟨pb, po + D, none⟩ = some (.int .u8 p)) (hP0 : 0 ≤ p) (hP1 : p ≤ 255) (hl : w.cell? ⟨gl, d, none⟩ = some (.int .i64 L)) (hL0 : p ≤ L) (hL1 : 1 ≤ L) (hL2 : L ≤ 255) :
    Calls Try.prog 68 #[.int .i64 x, .int .i64 y, .pointer (some ⟨gb, 0, none⟩), .pointer (some ⟨lb, 0, none⟩), .pointer (some ⟨qb, 0, none⟩)] w fun e w' => e = .returned (.int .u8 (evenV p L)) ∧ Below w.heap.size w w' := by
  have r1 : y * W ≤ 16000000 := Nat.mul_le_mul (show y ≤ 4000 by omega) hW
  have r2 : y * W + W ≤ H * W := by
    have h2 := Nat.mul_le_mul_right W (show y + 1 ≤ H by omega)
    rw [Nat.add_mul, Nat.one_mul] at h2
    exact h2
  obtain ⟨Y, hY⟩ : ∃ Y, Y = y * W := ⟨_, rfl⟩
  have e1 : (y : Int) * (W : Int) = (Y : Int) := by rw [hY, Int.natCast_mul]
  rw [← hY] at r1 r2 hD
  have hdn : (D : Int) < (n : Int) := by rw [hn, Nat.mul_comm W H]; omega
  have e2 : (Y : Int) + (x : Int) = (D : Int) := by omega
  have f1 : IntKind.i64.wrap (Y : Int) = (Y : Int) := IntWalk.i64_in _ (by omega)
  have f2 : IntKind.i64.wrap (D : Int) = (D : Int) := IntWalk.i64_in _ (by omega)
  have f4 : IntKind.i64.wrap p = p := IntWalk.i64_in _ (by omega)
  have f3 : IntKind.i64.wrap (p * 255) = p * 255 := IntWalk.i64_in _ (by omega)
  have g1 : x / S ≤ 4000 := Nat.le_trans (Nat.div_le_self _ _) (by omega)
  have g2 : y / S ≤ 4000 := Nat.le_trans (Nat.div_le_self _ _) (by omega)
  have HQ := Lib.hid (fun n => even1_any x y (x / S) (y / S) d A S sb ab (w.drewN n) hS rfl rfl hd g1 hA g2 (by omega) (by omega) hS' (cell_later (below_drewN (Below.refl _ _) n) h5) (cell_later (below_drewN (Below.refl _ _) n) h6))
  obtain ⟨s0, s1⟩ := evenV_bounds hP0 hL0 hL1
  obtain ⟨q, hq⟩ : ∃ q, q = evenV p L := ⟨_, rfl⟩
  rw [← hq] at s0 s1 ⊢
  have hqe : (2 * (p * 255) + L) / (2 * L) = q := hq.symm
  clear hY hD hn r2 hq g1 g2 hd h5 h6
  go_enter Try.func68, Try.ntmps68
  go_wp2_with fail
  go_quiet ((first | ((first | go_at_call 67 | go_at_fn 67); (with_reducible refine (HQ.out _).mono ?_); rintro e w2 ⟨rfl, q2, rfl⟩; exact ⟨rfl, _, drew_drew _ _ _⟩) | (go_at_call 59; refine (rounded_any _ _ _ (by omega) (by omega) (by omega) (by omega)).mono ?_; rintro e wq ⟨rfl, rfl⟩; exact ⟨rfl, _, rfl⟩)))
  go_wp2
  go_ret
  exact ⟨rfl, below_drewN (Below.refl _ _) _⟩

end Go.Proofs.Ytofcojcfcpfdmaa
namespace Go.Proofs.Ytofcojcfcpfdmaa
open Go.RowKit
set_option linter.unusedSimpArgs false
set_option linter.unusedVariables false

theorem places_set {A m u v : Nat} {f f' : Nat → Nat → Int} {x : Int} (hu : u < A) (hk : v * A + u < m) (h1 : f' u v = x) (h2 : ∀ a b, ¬ (a = u ∧ b = v) → f' a b = f a b) :
    ((places A f m).map (Value.int .i64)).set (v * A + u) (.int .i64 x) = (places A f' m).map (Value.int .i64) := by
  have e1 : (v * A + u) % A = u := by rw [Nat.add_comm, Nat.mul_comm, Nat.add_mul_mod_self_left, Nat.mod_eq_of_lt hu]
  have e2 : (v * A + u) / A = v := by rw [Nat.add_comm, Nat.mul_comm, Nat.add_mul_div_left _ _ (by omega), Nat.div_eq_of_lt hu, Nat.zero_add]
  apply List.ext_getElem?
  intro j
  rw [List.getElem?_set]
  by_cases hj : v * A + u = j
  · subst hj
    simp [places, List.getElem?_range hk, e1, e2, h1, hk]
  · rw [if_neg hj]
    by_cases hm : j < m
    · simp only [places, List.getElem?_map, List.getElem?_range hm, Option.map_some]
      rw [h2 _ _ fun ⟨k1, k2⟩ => hj (by have := Nat.div_add_mod j A; rw [k1, k2, Nat.mul_comm] at this; exact this)]
    · simp [places, List.getElem?_eq_none, hm]

theorem make_ints (m : Nat) (hm : m ≤ 100000000) (w : World) :
    (Instr.makeSlice 52 (.int .i64 (m : Int)) (.int .i64 (m : Int))).run Try.prog w = .ok (.slice (some ⟨w.heap.size, 0, none⟩) m m) (w.alloc (.cells (madeCells #[.int .i64 0] m) 3)) := by
  obtain ⟨i0, hi, hz0, hz1, hz2⟩ := info_parts info_int
  have hr := run_make (P := Try.prog) w 52 3 i0 (.int .i64 0) Try.underlying52 hi hz0 .i64 .i64 m m (by omega) (by omega) (by rw [hz2]; omega) (by omega)
  simp only [Int.toNat_natCast, hz1, Nat.mul_one] at hr
  exact hr

theorem even_range (a b r : Int) (p : Option Addr) (n c : Nat) (w : World) (h : pageErr a b n = 0) (hr : ¬ (1 ≤ r ∧ r ≤ 4000)) :
    Calls Try.prog 17 #[.agg #[.int .i64 a, .int .i64 b, .slice p n c], .int .i64 r] w fun e w' => e = .returned (.tuple #[.agg #[.int .i64 0, .int .i64 0, .slice none 0 0], .int .i64 3]) ∧ Below w.heap.size w w' := by
  have H1 := Lib.hid hr
  clear hr
  go_enter Try.func17, Try.ntmps17
  go_wp2_with (first | (go_at_call 55; refine (checkGray_any _ _ _ _ _ _).mono ?_; rintro e w' ⟨rfl, rfl⟩) | (go_at_call 56; (with_reducible refine (outside_yes r 1 4000 _ H1.out).mono ?_); rintro e w' ⟨rfl, rfl⟩))
  refine bodyPost_ret (v := .tuple #[.agg #[.int .i64 0, .int .i64 0, .slice none 0 0], .int .i64 3]) (by simp [results, Try.results17, go_sem]) rfl ⟨rfl, below_alloc (below_alloc (below_alloc (new_below _ _) _) _) _⟩

/-- How many squares of S stand side by side. -/
theorem squares_le {W S : Nat} (hW : 1 ≤ W) (hS : 1 ≤ S) : 1 ≤ (W + S - 1) / S ∧ (W + S - 1) / S ≤ W ∧ ∀ x, x < W → x / S < (W + S - 1) / S := by
  have e : (W + S - 1) / S = (W - 1) / S + 1 := by
    rw [show W + S - 1 = (W - 1) + S by omega, Nat.add_div_right _ (by omega)]
  have h1 := Nat.div_le_self (W - 1) S
  rw [e]
  have h2 := fun x (hx : x < W) => Nat.div_le_div_right (c := S) (show x ≤ W - 1 by omega)
  obtain ⟨q, hq⟩ : ∃ q, q = (W - 1) / S := ⟨_, rfl⟩
  rw [← hq] at h1 h2 ⊢
  exact ⟨by omega, by omega, fun x hx => Nat.lt_succ_of_le (h2 x hx)⟩

/-- What the loop over the values leads from step to step. -/
def EvenRel (P : Nat → Int) (W S A m lb mb B : Nat) (w1 : World) (i : Nat) (wr : World) : Prop :=
  wr.ownsRow B 3 1 (.slice (some ⟨mb, 0, none⟩) m m) m ((places A (fun u v => lightOf P W S u v i) m).map (Value.int .i64)) ∧ wr.cell? ⟨lb, 0, none⟩ = some (.slice (some ⟨mb, 0, none⟩) m m) ∧ Below B w1 wr

theorem evenRel_step {P : Nat → Int} {W S A m lb mb B i : Nat} {w1 wr : World} (h : EvenRel P W S A m lb mb B w1 i wr) (hb : B ≤ mb) (hne : lb ≠ mb) (hu : i % W / S < A) (hk : i / W / S * A + i % W / S < m) (q : Nat) :
    EvenRel P W S A m lb mb B w1 (i + 1) ((wr.drewN q).setCell ⟨mb, i / W / S * A + i % W / S, none⟩ (.int .i64 (max (max (lightOf P W S (i % W / S) (i / W / S) i) (P i)) 1))) := by
  obtain ⟨h1, h2, h3⟩ := h
  have h1' : (wr.drewN q).ownsRow B 3 1 (.slice (some ⟨mb, 0, none⟩) m m) m ((places A (fun u v => lightOf P W S u v i) m).map (Value.int .i64)) := h1
  refine ⟨?_, ?_, (below_drewN h3 q).setCell hb _⟩
  · have := (h1'.stored (i / W / S * A + i % W / S) (.int .i64 (max (max (lightOf P W S (i % W / S) (i / W / S) i) (P i)) 1))).1
    rw [places_set (f' := fun u v => lightOf P W S u v (i + 1)) hu hk (lightOf_hit P W S _ _ i rfl rfl) (fun a b hab => lightOf_miss P W S a b i fun ⟨k1, k2⟩ => hab ⟨k1.symm, k2.symm⟩)] at this
    exact this
  · rw [World.cell?_of_block (Below.heap_setCell _ _ _ _ (by simpa using hne))]
    exact h2

theorem two_new (w : World) (c1 c2 : Array Value) (t1 t2 : TypeId) : ((w.alloc (.cells c1 t1)).alloc (.cells c2 t2)).drew.heap[w.heap.size]? = some (.cells c1 t1 (0, 0)) ∧ ((w.alloc (.cells c1 t1)).alloc (.cells c2 t2)).drew.heap[w.heap.size + 1]? = some (.cells c2 t2 (0, 0)) := by
  refine ⟨?_, ?_⟩
  · refine Eq.trans ?_ (heap_alloc_new w (.cells c1 t1))
    exact Below.heap_alloc _ _ _ (by simp)
  · have := heap_alloc_new (w.alloc (.cells c1 t1)) (.cells c2 t2)
    rw [show (w.alloc (.cells c1 t1)).heap.size = w.heap.size + 1 by simp] at this
    exact this

theorem box1 {w : World} {b : Nat} {x : Value} {t : TypeId} (h : w.heap[b]? = some (.cells #[x] t (0, 0))) : w.cell? ⟨b, 0, none⟩ = some x ∧ w.frozen? ⟨b, 0, none⟩ = false :=
  ⟨by rw [cell_of_row w b 0 _ t (0, 0) h]; rfl, frozen_of_row w b 0 _ t h⟩

theorem light_cell {P : Nat → Int} {W S A m lb mb B n u v : Nat} {w1 wr : World} (h : EvenRel P W S A m lb mb B w1 n wr) (hu : u < A) (hk : v * A + u < m) :
    wr.cell? ⟨mb, v * A + u, none⟩ = some (.int .i64 (lightOf P W S u v n)) ∧ wr.frozen? ⟨mb, v * A + u, none⟩ = false := by
  have e1 : (v * A + u) % A = u := by rw [Nat.add_comm, Nat.mul_comm, Nat.add_mul_mod_self_left, Nat.mod_eq_of_lt hu]
  have e2 : (v * A + u) / A = v := by rw [Nat.add_comm, Nat.mul_comm, Nat.add_mul_div_left _ _ (by omega), Nat.div_eq_of_lt hu, Nat.zero_add]
  refine ⟨?_, h.1.frozenAt _⟩
  rw [h.1.cellAt _ (by omega)]
  simp [places, List.getElem?_range hk, e1, e2]

theorem lights_new (P : Nat → Int) (W S A m lb mb : Nat) (w3 w4 : World) (hm : m ≤ 100000000) (hmb : w3.heap.size ≤ mb) (h1 : w4.heap[lb]? = some (.cells #[.slice (some ⟨mb, 0, none⟩) m m] 52 (0, 0))) (h2 : w4.heap[mb]? = some (.cells (madeCells #[.int .i64 0] m) 3 (0, 0))) :
    EvenRel P W S A m lb mb w3.heap.size w4 0 w4 := by
  refine ⟨⟨by simp [places], .inr ⟨mb, m, _, rfl, hmb, h2, Nat.le_refl _, by unfold maxLen; omega, by rw [size_madeCells, Nat.mul_one], ?_⟩⟩, (box1 h1).1, Below.refl _ _⟩
  rw [toList_madeCells_one, Nat.mul_one, List.take_of_length_le (by simp)]
  apply List.ext_getElem?
  intro j
  by_cases hj : j < m
  · simp [places, lightOf, hj, List.getElem?_range hj]
  · simp [places, hj]

@[local go_sem high] theorem run_max_ints3 {P : Program} (w : World) (ts : Array TypeId) (t : TypeId) (k k' k'' : IntKind) (x y z : Int) :
    (Builtin.max_ ts t #[.int k x, .int k' y, .int k'' z]).run P w = .ok (.int k (max (max x y) z)) w := by
  have e1 : (if y > x then y else x) = max x y := by
    rw [Int.max_def]
    split <;> split <;> omega
  have e2 : (if z > max x y then z else max x y) = max (max x y) z := by
    rw [Int.max_def (max x y)]
    split <;> split <;> omega
  simp [Builtin.max_, Builtin.max2, e1, e2]

set_option maxHeartbeats 2000000 in
set_option maxRecDepth 100000 in
theorem even_ok (W H pb po c S : Nat) (P : Nat → Int) (w : World) (he : sizeErr W H = 0) (hS : 1 ≤ S) (hS' : S ≤ 4000) (hP : ∀ j, 0 ≤ P j ∧ P j ≤ 255)
    (hp : ∀ j, j < W * H → w.cell? ⟨pb, po + j, none⟩ = some (.int .u8 (P j))) :
    Calls Try.prog 17 #[.agg #[.int .i64 W, .int .i64 H, .slice (some ⟨pb, po, none⟩) (W * H) c], .int .i64 S] w fun e w' =>
      ∃ v, e = .returned (.tuple #[.agg #[.int .i64 W, .int .i64 H, v], .int .i64 0]) ∧ w'.ownsRow w.heap.size 5 1 v (W * H) ((places W (fun x y => evenV (P (y * W + x)) (lightOf P W S (x / S) (y / S) (W * H))) (W * H)).map (Value.int .u8)) ∧ Below w.heap.size w w' := by
  have hmf : ∀ (fn : Fn) (first cap : Array Value) (w : World), (Instr.makeFunc fn first cap).run Try.prog w = .ok (.func fn first cap) w := fun _ _ _ _ => rfl
  obtain ⟨⟨a1, a2, a3, a4⟩, a5, a6⟩ := sizeErr_zero he
  have hpe : pageErr W H (W * H) = 0 := by unfold pageErr; rw [if_pos he, if_pos (by simp [Int.natCast_mul])]
  have hN : W * H ≤ 1048576 := by rw [← Int.natCast_mul] at a6; omega
  clear a5 a6 he
  have bW : 1 ≤ W ∧ W ≤ 4000 := by omega
  have bH : 1 ≤ H ∧ H ≤ 4000 := by omega
  obtain ⟨s1, s2, s3⟩ := squares_le bW.1 hS
  obtain ⟨t1, t2, t3⟩ := squares_le bH.1 hS
  obtain ⟨A, hA⟩ : ∃ A, A = (W + S - 1) / S := ⟨_, rfl⟩
  obtain ⟨D, hD⟩ : ∃ D, D = (H + S - 1) / S := ⟨_, rfl⟩
  obtain ⟨WS, hWS⟩ : ∃ WS, WS = W + S - 1 := ⟨_, rfl⟩
  obtain ⟨HS, hHS⟩ : ∃ HS, HS = H + S - 1 := ⟨_, rfl⟩
  rw [← hA] at s1 s2 s3
  rw [← hD] at t1 t2 t3
  obtain ⟨m, hm⟩ : ∃ m, m = A * D := ⟨_, rfl⟩
  have hm1 : m ≤ W * H := by rw [hm]; exact Nat.mul_le_mul s2 t2
  have p1 : (W : Int) + (S : Int) - 1 = (WS : Int) := by omega
  have p2 : (WS : Int) / (S : Int) = (A : Int) := by rw [hWS, hA]; simp
  have p3 : (H : Int) + (S : Int) - 1 = (HS : Int) := by omega
  have p4 : (HS : Int) / (S : Int) = (D : Int) := by rw [hHS, hD]; simp
  have p5 : (A : Int) * (D : Int) = (m : Int) := by rw [hm, Int.natCast_mul]
  have hmk := make_ints m (by omega)
  have HM := Lib.hid hm
  have HT := Lib.hid t3
  have HSS := Lib.hid s3
  have b1 : WS ≤ 8000 := by omega
  have b2 : HS ≤ 8000 := by omega
  have b3 : m ≤ 1048576 := by omega
  have b4 : A ≤ 4000 := by omega
  have b5 : D ≤ 4000 := by omega
  have S0 : ((S : Int) == 0) = false := by simp; omega
  have HP := Lib.hid hP
  have HC := Lib.hid hp
  have H1 := Lib.hid (show (1 : Int) ≤ (S : Int) ∧ (S : Int) ≤ 4000 by omega)
  clear hp hP hA hD hm hWS hHS s3 t3 bW bH
  go_enter Try.func17, Try.ntmps17
  go_upto_region 8 with (first | (go_at_call 55; refine (checkGray_any _ _ _ _ _ _).mono ?_; rintro e w' ⟨rfl, rfl⟩) | (go_at_call 56; (with_reducible refine (outside_no (S : Int) 1 4000 _ H1.out).mono ?_); rintro e w' ⟨rfl, rfl⟩))
  --@@
  obtain ⟨w3, hw3⟩ : ∃ w3, w3 = (((((w.alloc (.cells #[.int .i64 W, .int .i64 H, .slice (some ⟨pb, po, none⟩) (W * H) c] 24)).alloc (.cells #[.int .i64 S] 3)).alloc (.cells #[.int .i64 0, .int .i64 0, .slice none 0 0] 24)).alloc (.cells #[.int .i64 W, .int .i64 H, .slice (some ⟨pb, po, none⟩) (W * H) c] 24)).alloc (.cells #[.int .i64 A] 3)).alloc (.cells #[.func (.func 67) #[] #[.pointer (some ⟨w.heap.size + 1, 0, none⟩), .pointer (some ⟨w.heap.size + 1 + 1 + 1 + 1, 0, none⟩)]] 86) := ⟨_, rfl⟩
  have B3 : Below w.heap.size w w3 := by rw [hw3]; exact below_alloc (below_alloc (below_alloc (below_alloc (below_alloc (new_below _ _) _) _) _) _) _
  have q0 : w3.cell? ⟨w.heap.size, 0, none⟩ = some (.int .i64 W) := by rw [hw3]; go_simp
  have q1 : w3.cell? ⟨w.heap.size, 1, none⟩ = some (.int .i64 H) := by rw [hw3]; go_simp
  have q2 : w3.cell? ⟨w.heap.size, 2, none⟩ = some (.slice (some ⟨pb, po, none⟩) (W * H) c) := by rw [hw3]; go_simp
  have q3 : w3.cell? ⟨w.heap.size + 1, 0, none⟩ = some (.int .i64 S) := by rw [hw3]; go_simp
  have q4 : w3.cell? ⟨w.heap.size + 1 + 1 + 1 + 1, 0, none⟩ = some (.int .i64 A) := by rw [hw3]; go_simp
  have q5 : w3.cell? ⟨w.heap.size + 1 + 1 + 1 + 1 + 1, 0, none⟩ = some (.func (.func 67) #[] #[.pointer (some ⟨w.heap.size + 1, 0, none⟩), .pointer (some ⟨w.heap.size + 1 + 1 + 1 + 1, 0, none⟩)]) := by rw [hw3]; go_simp
  have qb : w3.heap[w.heap.size + 1 + 1]? = some (.cells #[.int .i64 0, .int .i64 0, .slice none 0 0] 24 (0, 0)) := by
    rw [hw3, Below.heap_alloc _ _ _ (by simp), Below.heap_alloc _ _ _ (by simp), Below.heap_alloc _ _ _ (by simp)]
    simpa using heap_alloc_new ((w.alloc (.cells #[.int .i64 W, .int .i64 H, .slice (some ⟨pb, po, none⟩) (W * H) c] 24)).alloc (.cells #[.int .i64 S] 3)) (.cells #[.int .i64 0, .int .i64 0, .slice none 0 0] 24)
  have hsz : w3.heap.size = w.heap.size + 6 := by rw [hw3]; simp
  have l0 := World.block_lt_of_cell? _ _ q0
  have l1 := World.block_lt_of_cell? _ _ q3
  have l4 := World.block_lt_of_cell? _ _ q4
  have lq := World.block_lt_of_cell? _ _ q5
  simp only at l0 l1 l4 lq
  have hSn : S ≠ 0 := by omega
  rw [← hw3]
  clear hw3 hpe
  have HB3 := Lib.hid B3
  have HQB := Lib.hid qb
  have HSZ := Lib.hid hsz
  have g1 : IntKind.i64.wrap ((H : Int) + (S : Int)) = (H : Int) + (S : Int) := IntWalk.i64_in _ (by omega)
  have g2 : IntKind.i64.wrap (HS : Int) = (HS : Int) := IntWalk.i64_in _ (by omega)
  have g3 : IntKind.i64.wrap (D : Int) = (D : Int) := IntWalk.i64_in _ (by omega)
  have g4 : IntKind.i64.wrap (m : Int) = (m : Int) := IntWalk.i64_in _ (by omega)
  clear B3 qb hsz
  go_cut [9] from 31 to 40 (fun t wx => ∃ lb mb : Nat, t = .pointer (some ⟨lb, 0, none⟩) ∧ Hid (w3.heap.size ≤ lb ∧ w3.heap.size ≤ mb ∧ lb ≠ mb ∧ wx.heap[lb]? = some (.cells #[.slice (some ⟨mb, 0, none⟩) m m] 52 (0, 0)) ∧ wx.heap[mb]? = some (.cells (madeCells #[.int .i64 0] m) 3 (0, 0)) ∧ Below w3.heap.size w3 wx))
  case first =>
    go_region
    all_goals
      go_wp2_with fail
      go_meet
      case rel =>
        first
          | exact ⟨_, w3.heap.size, rfl, Lib.hid ⟨by omega, by omega, by omega, (two_new w3 _ _ _ _).2, (two_new w3 _ _ _ _).1, (below_alloc (new_below _ _) _).drew⟩⟩
          | exact ⟨_, w3.heap.size + 1, rfl, Lib.hid ⟨by omega, by omega, by omega, (two_new w3 _ _ _ _).1, (two_new w3 _ _ _ _).2, (below_alloc (new_below _ _) _).drew⟩⟩
  case rest =>
    obtain ⟨w4, rfl⟩ : ∃ w4, w4 = wc := ⟨_, rfl⟩
    obtain ⟨lb, mb, rfl, HF⟩ := hcut
    obtain ⟨f1, f2, f3, f4, f5, f6⟩ := HF.out
    have HR0 := Lib.hid (lights_new P W S A m lb mb w3 w4 (by omega) f2 f4 f5)
    have k0 := cell_later f6 q0
    have k1 := cell_later f6 q1
    have k2 := cell_later f6 q2
    have k3 := cell_later f6 q3
    have k4 := cell_later f6 q4
    have k5 := cell_later f6 q5
    have HB4 := Lib.hid f6
    have HK := Lib.hid (show w3.heap.size ≤ mb ∧ lb ≠ mb from ⟨f2, f3⟩)
    have HL := Lib.hid (show w.heap.size < w3.heap.size ∧ w.heap.size + 1 < w3.heap.size ∧ w.heap.size + 1 + 1 + 1 + 1 < w3.heap.size ∧ w.heap.size + 1 + 1 + 1 + 1 + 1 < w3.heap.size from ⟨l0, l1, l4, lq⟩)
    clear HF f1 f2 f3 f4 f5 f6 q0 q1 q2 q3 q4 q5
    go_wp2_with fail
    go_loopw [44] (fun i wr => ∃ k : Nat, k ≤ W * H ∧ i = .int .i64 k ∧ Hid (EvenRel P W S A m lb mb w3.heap.size w4 k wr)) (fun i _ => W * H - (intOf i).toNat)
    case atStart => exact ⟨0, Nat.zero_le _, rfl, HR0⟩
    case round =>
      obtain ⟨k, hk, rfl, hR⟩ := hrel
      obtain ⟨h0, h1, h4, h5⟩ := HL.out
      have c0 := (hR.out.2.2.cell (p := ⟨w.heap.size, 0, none⟩) h0).trans k0
      have c1 := (hR.out.2.2.cell (p := ⟨w.heap.size, 1, none⟩) h0).trans k1
      have c2 := (hR.out.2.2.cell (p := ⟨w.heap.size, 2, none⟩) h0).trans k2
      have c3 := (hR.out.2.2.cell (p := ⟨w.heap.size + 1, 0, none⟩) h1).trans k3
      have c4 := (hR.out.2.2.cell (p := ⟨w.heap.size + 1 + 1 + 1 + 1, 0, none⟩) h4).trans k4
      have c5 := (hR.out.2.2.cell (p := ⟨w.heap.size + 1 + 1 + 1 + 1 + 1, 0, none⟩) h5).trans k5
      have cl := hR.out.2.1
      have HPX := Lib.hid (fun j (hj : j < W * H) => ((hR.out.2.2.cell (p := ⟨pb, po + j, none⟩) (Nat.lt_trans (World.block_lt_of_cell? _ _ (HC.out j hj)) h0)).trans (cell_later HB4.out (cell_later HB3.out (HC.out j hj)))))
      clear k0 k1 k2 k3 k4 k5 h0 h1 h4 h5
      by_cases hlt : k < W * H
      · obtain ⟨x, hx⟩ : ∃ x, x = k % W := ⟨_, rfl⟩
        obtain ⟨y, hy⟩ : ∃ y, y = k / W := ⟨_, rfl⟩
        obtain ⟨u, hu⟩ : ∃ u, u = x / S := ⟨_, rfl⟩
        obtain ⟨v, hv⟩ : ∃ v, v = y / S := ⟨_, rfl⟩
        obtain ⟨d, hd⟩ : ∃ d, d = v * A + u := ⟨_, rfl⟩
        have hxW : x < W := by rw [hx]; exact Nat.mod_lt _ (by omega)
        have hyH : y < H := by rw [hy]; exact Nat.div_lt_of_lt_mul hlt
        have huA : u < A := by rw [hu]; exact HSS.out x hxW
        have hvD : v < D := by rw [hv]; exact HT.out y hyH
        have hdm : d < m := by have := row_fits hvD (show u + 1 ≤ A by omega); rw [hd, HM.out]; omega
        obtain ⟨cc, cf⟩ := light_cell hR.out huA (by rw [← hd]; exact hdm)
        have hst := fun q => evenRel_step hR.out HK.out.1 HK.out.2 (by rw [← hx, ← hu]; exact huA) (by rw [← hx, ← hy, ← hu, ← hv, ← hd]; exact hdm) q
        rw [← hx, ← hy, ← hu, ← hv, ← hd] at hst
        rw [← hd] at cc cf
        have cp := HPX.out k hlt
        obtain ⟨pk, hpk⟩ : ∃ pk, pk = P k := ⟨_, rfl⟩
        have pk0 : 0 ≤ pk := by rw [hpk]; exact (HP.out k).1
        have pk1 : pk ≤ 255 := by rw [hpk]; exact (HP.out k).2
        rw [← hpk] at cp hst
        obtain ⟨L, hL⟩ : ∃ L, L = lightOf P W S u v k := ⟨_, rfl⟩
        rw [← hL] at cc hst
        have HST := Lib.hid hst
        have r1 : (k : Int) % (W : Int) = (x : Int) := by rw [hx]; simp
        have r2 : (k : Int) / (W : Int) = (y : Int) := by rw [hy]; simp
        have r3 : IntKind.i64.wrap (x : Int) = (x : Int) := IntWalk.i64_in _ (by omega)
        have r4 : IntKind.i64.wrap (y : Int) = (y : Int) := IntWalk.i64_in _ (by omega)
        have W0 : ((W : Int) == 0) = false := by simp; omega
        have hWn : W ≠ 0 := by omega
        have i1 : (k : Int) < ((W * H : Nat) : Int) := by omega
        have i2 : (d : Int) < (m : Int) := by omega
        have HQ := Lib.hid (fun n => even1_any x y u v d A S (w.heap.size + 1) (w.heap.size + 1 + 1 + 1 + 1) (wr.drewN n) hS hu.symm hv.symm hd (by omega) b4 (by omega) (by omega) (by omega) hS' (cell_later (below_drewN (Below.refl _ _) n) c3) (cell_later (below_drewN (Below.refl _ _) n) c4))
        clear hx hy hu hv hd hpk hL hst
        go_wp2_with fail
        go_quiet (((first | go_at_call 67 | go_at_fn 67); (with_reducible refine (HQ.out _).mono ?_); rintro e w2 ⟨rfl, q2, rfl⟩; exact ⟨rfl, _, drew_drew _ _ _⟩))
        go_wp2_with fail
        go_region
        all_goals
          go_wp2_with fail
          go_roundw
          case rel => exact ⟨k + 1, by omega, by go_num, Lib.hid (by rw [show max L (max pk 1) = max (max L pk) 1 by omega]; exact HST.out _)⟩
          case measure => simp [intOf]; omega
      · obtain ⟨N, hN2⟩ : ∃ N, N = W * H := ⟨_, rfl⟩
        have hkN : k = N := by omega
        have qb := (hR.out.2.2.block (w.heap.size + 1 + 1) (by have := HSZ.out; omega)).trans (below_block HB4.out HQB.out)
        have lb2 := Lib.hid (Array.getElem?_eq_some_iff.1 qb).1
        have HBW := Lib.hid (below_step HB3.out (HB4.out.trans hR.out.2.2))
        go_wp2_with fail
        refine (fillByte_any W H 68 _ (fun x y => evenV (P (y * W + x)) (lightOf P W S (x / S) (y / S) (W * H))) wr (by omega) (by omega) (by omega) (by omega) (Go.Proofs.enters_of Try.func68 (by kernel_rfl) rfl) ?_).mono ?_
        · intro x y wx hx hy hbx
          have hfit := row_fits hy (show x + 1 ≤ W by omega)
          have huA := HSS.out x hx
          have hvD := HT.out y hy
          have hdm : y / S * A + x / S < m := by have := row_fits hvD (show x / S + 1 ≤ A by omega); rw [HM.out]; omega
          obtain ⟨cc, _⟩ := light_cell hR.out huA hdm
          have e1 : (y * W + x) % W = x := by rw [Nat.add_comm, Nat.mul_comm, Nat.add_mul_mod_self_left, Nat.mod_eq_of_lt hx]
          have e2 : (y * W + x) / W = y := by rw [Nat.add_comm, Nat.mul_comm, Nat.add_mul_div_left _ _ (by omega), Nat.div_eq_of_lt hx, Nat.zero_add]
          obtain ⟨g1, g2⟩ := lightOf_ge P W S (x / S) (y / S) (W * H) (y * W + x) (by omega) (by rw [e1]) (by rw [e2])
          have g3 := (lightOf_bounds P HP.out W S (x / S) (y / S) (W * H)).2
          rw [hkN, hN2] at cc
          exact even2_any W H (W * H) (y * W + x) x y (y / S * A + x / S) w.heap.size pb po c lb (w.heap.size + 1 + 1 + 1 + 1 + 1) mb m m (w.heap.size + 1) (w.heap.size + 1 + 1 + 1 + 1) S A _ _ wx (by omega) (by omega) hx hy rfl rfl hS hS' b4 rfl hdm (by omega)
            (cell_later hbx c0) (cell_later hbx c2) (cell_later hbx cl) (cell_later hbx c5) (cell_later hbx c3) (cell_later hbx c4) (cell_later hbx (HPX.out _ (by omega))) (HP.out _).1 (HP.out _).2 (cell_later hbx cc) g1 g2 g3
        · rintro e w5 ⟨v, rfl, hown, hb5⟩
          obtain ⟨j0, j1, j2, r0, r1, r2⟩ := block3 (below_block hb5 qb)
          obtain ⟨va, vn, vc, rfl⟩ := owns_shape hown
          have d0 := cell_later hb5 c0
          have d1 := cell_later hb5 c1
          have F := Lib.hid hown
          have G := Lib.hid (below_step HBW.out hb5)
          clear hown hb5 c0 c1 c2 c3 c4 c5 cl qb
          go_wp2_with fail
          refine bodyPost_ret (v := .tuple #[.agg #[.int .i64 W, .int .i64 H, .slice va vn vc], .int .i64 0]) (by simp [results, Try.results17, go_sem, j0, j1, j2]) rfl ⟨_, rfl, owns_far3 F.out lb2.out (HBW.out.size), below_far3 G.out (by omega)⟩

end Go.Proofs.Ytofcojcfcpfdmaa
