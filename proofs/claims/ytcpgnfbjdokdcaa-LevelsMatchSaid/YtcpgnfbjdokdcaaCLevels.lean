/-
  LevelsMatch returns true for every page in grey, and each argument reads afterwards as it read before. No conditions.
-/
import Derived.Test.YtcpgnfbjdokdcaaRows
import Derived.WalkKit
import Derived.WalkSpells
import Derived.WalkLawsBesides
import Derived.Lib.Hide
import Derived.Deep.RegionHeld3
import Derived.Shelf.Abstract
import Derived.Deep.AppendLies
import Derived.Deep.DrawnRows
import Derived.Deep.RegionLaw
import Derived.Deep.QuietTactic
import Derived.BigQuiet
import Derived.ProofKit
import Derived.OpenShut
import Derived.ShutString
import Derived.ChangeOld
import Derived.Lib.SmallJoins
import Derived.Deep.Grids
import Derived.Deep.DeepCutAuto
import Derived.Lib.MinMax
import Derived.Deep.CutRange
import Derived.Laws.EntriesVeiled
import Derived.StillTailTactics
import Derived.RegionTactic
import Derived.ChangeAlike
import Derived.BigRegion
import Derived.Test.YtcpgnfbjdokdcaaCLevels2
namespace Go.Proofs.Ytcpgnfbjdokdcaa
open Go.RowKit
set_option linter.unusedSimpArgs false
set_option linter.unusedVariables false

theorem mask_nat (a : Int) (m : Nat) (hm : m < 4294967296) : ∃ A : Nat, A ≤ m ∧ bits .and .i64 a (m : Int) = (A : Int) := by
  refine ⟨(BitVec.ofInt 64 a).toNat &&& m, Nat.and_le_right, ?_⟩
  have hle : (BitVec.ofInt 64 a).toNat &&& m ≤ m := Nat.and_le_right
  show IntKind.i64.wrap ((BitVec.ofInt 64 a &&& BitVec.ofInt 64 (m : Int)).toNat : Int) = _
  rw [BitVec.toNat_and, BitVec.ofInt_natCast, BitVec.toNat_ofNat, Nat.mod_eq_of_lt (by omega)]
  exact IntWalk.i64_in _ (by omega)

/-- The value of a fitted page at a place. -/
def fitAt (P : Nat → Int) (n w x y : Nat) : Int := if n = 0 then 200 else P ((y * w + x) % n)

theorem fitGray1_any (x y W n gb wb : Nat) (a b : Int) (s : Option Addr) (c : Nat) (zs : List Int) (w : World) (hW : W ≤ 16) (hx : x < W) (hy : y < 16) (hn : n ≤ 9223372036854775807) (hs : IsBytes w s n c zs)
    (h2 : w.cell? ⟨gb, 2, none⟩ = some (.slice s n c)) (h3 : w.cell? ⟨wb, 0, none⟩ = some (.int .i64 W)) :
    Calls Try.prog 123 #[.int .i64 x, .int .i64 y, .pointer (some ⟨gb, 0, none⟩), .pointer (some ⟨wb, 0, none⟩)] w fun e w' => e = .returned (.int .u8 (fitAt (fun j => zs.getD j 0) n W x y)) ∧ Below w.heap.size w w' := by
  by_cases h0 : n = 0
  · subst h0
    go_enter Try.func123, Try.ntmps123
    go_wp2
    go_ret
    exact ⟨rfl, Below.refl _ _⟩
  · obtain ⟨pb, po, rfl, hc, hP⟩ := isBytes_cells hs (by omega)
    have hlt := Nat.mod_lt (y * W + x) (show 0 < n by omega)
    have hcell := hc _ hlt
    have hN := Nat.mul_le_mul (show y ≤ 16 by omega) hW
    have x0 : (0 : Int) ≤ (y : Int) * (W : Int) := Int.mul_nonneg (by omega) (by omega)
    have x1 : (y : Int) * (W : Int) ≤ 256 := by rw [← Int.natCast_mul]; omega
    have hm : ((y : Int) * (W : Int) + (x : Int)) % (n : Int) = (((y * W + x) % n : Nat) : Int) := by simp [Int.natCast_mul]
    have hF := Lib.hid (show fitAt (fun j => zs.getD j 0) n W x y = zs.getD ((y * W + x) % n) 0 by unfold fitAt; rw [if_neg h0])
    have h1 : 1 ≤ n := by omega
    obtain ⟨q, hq⟩ : ∃ q, q = (y * W + x) % n := ⟨_, rfl⟩
    rw [← hq] at hcell hm hlt hF
    obtain ⟨p, hp⟩ : ∃ p, p = zs.getD q 0 := ⟨_, rfl⟩
    rw [← hp] at hcell hF
    have e0 : ((n : Int) == 0) = false := by simpa using h0
    have HQ := Lib.hid hq
    have HP := Lib.hid hp
    clear hq hp hN hc hs h0 hP
    go_enter Try.func123, Try.ntmps123
    go_wp2
    go_quiet (fail)
    go_wp2
    go_ret
    exact ⟨by rw [hF.out]; rfl, below_drewN (Below.refl _ _) _⟩

/-- What fitGray returns: a right page of at most 16 by 16 values. -/
def FittedY (w : World) (e : Ending) (w' : World) : Prop :=
  ∃ (W H g c : Nat) (z : Nat → Int), e = .returned (.agg #[.int .i64 W, .int .i64 H, .slice (some ⟨g, 0, none⟩) (W * H) c]) ∧ (1 ≤ W ∧ W ≤ 16 ∧ 1 ≤ H ∧ H ≤ 16) ∧ (∀ j, 0 ≤ z j ∧ z j ≤ 255) ∧
    (∀ j, j < W * H → w'.cell? ⟨g, 0 + j, none⟩ = some (.int .u8 (z j))) ∧ w.heap.size ≤ g ∧ Below w.heap.size w w'

theorem fitAt_bounds {P : Nat → Int} (hP : ∀ j, 0 ≤ P j ∧ P j ≤ 255) (n w x y : Nat) : 0 ≤ fitAt P n w x y ∧ fitAt P n w x y ≤ 255 := by
  unfold fitAt
  split
  · omega
  · exact hP _

theorem bytes_bounds {w : World} {s : Option Addr} {n c : Nat} {zs : List Int} (hs : IsBytes w s n c zs) (j : Nat) : 0 ≤ zs.getD j 0 ∧ zs.getD j 0 ≤ 255 := by
  rcases hs with ⟨_, _, _, rfl⟩ | ⟨x, _, _, _, _, hwf⟩
  · simp
  · by_cases hj : j < zs.length
    · have hm : zs.getD j 0 ∈ zs := by rw [List.getD_eq_getElem?_getD, List.getElem?_eq_getElem hj]; exact List.getElem_mem hj
      have hmin : IntKind.u8.min = 0 := rfl
      have hmax : IntKind.u8.max = 255 := rfl
      have := hwf _ hm
      simp only [Lit.wf, Bool.and_eq_true, decide_eq_true_eq] at this
      omega
    · rw [List.getD_eq_getElem?_getD, List.getElem?_eq_none (by omega)]
      simp

set_option maxHeartbeats 800000 in
set_option maxRecDepth 100000 in
theorem fitGray_any (a b : Int) (s : Option Addr) (n c : Nat) (zs : List Int) (w : World) (hn : n ≤ 9223372036854775807) (hs : IsBytes w s n c zs) :
    Calls Try.prog 74 #[.agg #[.int .i64 a, .int .i64 b, .slice s n c]] w (FittedY w) := by
  have hmf : ∀ (fn : Fn) (first cap : Array Value) (w : World), (Instr.makeFunc fn first cap).run Try.prog w = .ok (.func fn first cap) w := fun _ _ _ _ => rfl
  obtain ⟨A, hA, eA⟩ := mask_nat a 15 (by decide)
  obtain ⟨C, hC, eC⟩ := mask_nat b 15 (by decide)
  have eA' : bits .and .i64 a 15 = (A : Int) := eA
  have eC' : bits .and .i64 b 15 = (C : Int) := eC
  obtain ⟨W, hW⟩ : ∃ W : Nat, (1 : Int) + (A : Int) = (W : Int) := ⟨1 + A, by omega⟩
  obtain ⟨H, hH⟩ : ∃ H : Nat, (1 : Int) + (C : Int) = (H : Int) := ⟨1 + C, by omega⟩
  have bW : 1 ≤ W ∧ W ≤ 16 := by omega
  have bH : 1 ≤ H ∧ H ≤ 16 := by omega
  have hN := Nat.mul_le_mul bW.2 bH.2
  have HS := Lib.hid hs
  have HN := Lib.hid hN
  clear hs eA eC hN
  go_enter Try.func74, Try.ntmps74
  go_wp2_with fail
  go_region
  go_wp2_with fail
  obtain ⟨w1, hw1⟩ : ∃ w1, w1 = (((w.alloc (.cells #[.int .i64 a, .int .i64 b, .slice s n c] 27)).alloc (.cells #[.int .i64 0, .int .i64 0, .slice none 0 0] 27)).alloc (.cells #[.int .i64 W] 3)).drew := ⟨_, rfl⟩
  have B1 : Below w.heap.size w w1 := by rw [hw1]; exact (below_alloc (below_alloc (new_below _ _) _) _).drew
  have q2 : w1.cell? ⟨w.heap.size, 2, none⟩ = some (.slice s n c) := by rw [hw1]; go_simp
  have q3 : w1.cell? ⟨w.heap.size + 1 + 1, 0, none⟩ = some (.int .i64 W) := by rw [hw1]; go_simp
  have qb : w1.heap[w.heap.size + 1]? = some (.cells #[.int .i64 0, .int .i64 0, .slice none 0 0] 27 (0, 0)) := by
    rw [hw1, (show ∀ u : World, u.drew.heap = u.heap from fun _ => rfl), Below.heap_alloc _ _ _ (by simp)]
    simpa using heap_alloc_new (w.alloc (.cells #[.int .i64 a, .int .i64 b, .slice s n c] 27)) (.cells #[.int .i64 0, .int .i64 0, .slice none 0 0] 27)
  rw [← hw1]
  clear hw1
  have LQ := Lib.hid (Array.getElem?_eq_some_iff.1 qb).1
  refine (madeGray_any W H 123 _ (fitAt (fun j => zs.getD j 0) n W) w1 (by omega) (by omega) (by omega) (by have := HN.out; omega) (Go.Proofs.enters_of Try.func123 (by kernel_rfl) rfl) ?_).mono ?_
  · intro x y wx hx hy hbx
    exact fitGray1_any x y W n w.heap.size (w.heap.size + 1 + 1) a b s c zs wx (by omega) hx (by omega) hn (isBytes_later HS.out (below_step B1 hbx)) (cell_later hbx q2) (cell_later hbx q3)
  · rintro e w5 ⟨v, rfl, hown, hb5⟩
    have hpos := Nat.mul_pos bW.1 bH.1
    obtain ⟨g, cc, rfl, hg, hcell⟩ := owns_pageY hown hpos
    obtain ⟨j0, j1, j2, r0, r1, r2⟩ := block3 (below_block hb5 qb)
    have F := Lib.hid hcell
    have G := Lib.hid hb5
    have B2 := Lib.hid B1
    have bb := bytes_bounds HS.out
    clear hown hb5 hcell hW hH eA' eC' q2 q3 B1
    go_wp2_with fail
    refine bodyPost_ret (v := .agg #[.int .i64 W, .int .i64 H, .slice (some ⟨g, 0, none⟩) (W * H) cc]) (by simp [results, Try.results74, go_sem, j0, j1, j2]) rfl ?_
    have hl := LQ.out
    refine ⟨W, H, g, cc, fun j => fitAt (fun j => zs.getD j 0) n W (j % W) (j / W), rfl, ⟨bW.1, bW.2, bH.1, bH.2⟩, ?_, ?_, Nat.le_trans B2.out.size hg, ?_⟩
    · exact fun j => fitAt_bounds (P := fun j => zs.getD j 0) bb n W (j % W) (j / W)
    · intro j hj
      exact cell_far3 (by simp; omega) (F.out j hj)
    · exact below_far3 (below_step B2.out G.out) (by omega)

end Go.Proofs.Ytcpgnfbjdokdcaa
namespace Go.Proofs.Ytcpgnfbjdokdcaa
open Go.RowKit
set_option linter.unusedSimpArgs false
set_option linter.unusedVariables false

theorem small_size {W H : Nat} (hW : 1 ≤ W ∧ W ≤ 32) (hH : 1 ≤ H ∧ H ≤ 32) : sizeErr W H = 0 ∧ pageErr W H (W * H) = 0 ∧ 1 ≤ W * H ∧ W * H ≤ 1024 := by
  have h1 := Nat.mul_le_mul hW.2 hH.2
  have h2 := Nat.mul_pos hW.1 hH.1
  have he : sizeErr W H = 0 := by
    unfold sizeErr
    rw [if_neg (by omega), if_neg (by rw [← Int.natCast_mul]; omega)]
  exact ⟨he, by unfold pageErr; rw [if_pos he, if_pos (by simp [Int.natCast_mul])], h2, h1⟩

theorem small_size16 {W H : Nat} (hW : 1 ≤ W ∧ W ≤ 16) (hH : 1 ≤ H ∧ H ≤ 16) : sizeErr W H = 0 ∧ pageErr W H (W * H) = 0 ∧ 1 ≤ W * H ∧ W * H ≤ 256 := by
  have h := small_size (W := W) (H := H) ⟨hW.1, by omega⟩ ⟨hH.1, by omega⟩
  have h1 := Nat.mul_le_mul hW.2 hH.2
  exact ⟨h.1, h.2.1, h.2.2.1, h1⟩

/-- Three cells of a block that are written anew. -/
theorem far3_same {w : World} {b : Nat} {x y z x' y' z' : Value} {t : TypeId} (h : w.heap[b]? = some (.cells #[x, y, z] t (0, 0))) :
    (((w.setCell ⟨b, 0, none⟩ x').setCell ⟨b, 1, none⟩ y').setCell ⟨b, 2, none⟩ z').heap[b]? = some (.cells #[x', y', z'] t (0, 0)) := by
  have h1 := heap_setCell_same w b 0 #[x, y, z] t x' h
  have h2 := heap_setCell_same _ b 1 _ t y' h1
  have h3 := heap_setCell_same _ b 2 _ t z' h2
  simpa using h3

end Go.Proofs.Ytcpgnfbjdokdcaa
namespace Go.Proofs.Ytcpgnfbjdokdcaa
open Go.RowKit
set_option linter.unusedSimpArgs false
set_option linter.unusedVariables false
attribute [local go_sem ↓] Go.wp_at_zero Go.wp_at_succ

theorem start_bounds {z : Nat → Int} {n : Nat} {mn mx : Int} (hz : ∀ j, 0 ≤ z j ∧ z j ≤ 255) (h1 : IsMin z n mn) (h2 : IsMax z n mx) : 0 ≤ (mn + mx + 1) / 2 ∧ (mn + mx + 1) / 2 ≤ 255 := by
  obtain ⟨j, _, e⟩ := h1.1
  obtain ⟨i, _, e'⟩ := h2.1
  have := hz j
  have := hz i
  omega

theorem row_back (j W : Nat) : j / W * W + j % W = j := by rw [Nat.mul_comm]; exact Nat.div_add_mod j W

set_option maxHeartbeats 400000 in
set_option maxRecDepth 100000 in
theorem auto_ok (W H g o c : Nat) (mn mx : Int) (z : Nat → Int) (w : World) (hs : sizeErr W H = 0) (hzb : ∀ j, 0 ≤ z j ∧ z j ≤ 255) (hmn : IsMin z (W * H) mn) (hmx : IsMax z (W * H) mx)
    (hp : ∀ j, j < W * H → w.cell? ⟨g, o + j, none⟩ = some (.int .u8 (z j))) :
    Calls Try.prog 76 #[.agg #[.int .i64 W, .int .i64 H, .slice (some ⟨g, o, none⟩) (W * H) c]] w fun e w' =>
      ∃ g' c', e = .returned (.tuple #[.agg #[.int .i64 W, .int .i64 H, .slice (some ⟨g', 0, none⟩) (W * H) c'], .int .i64 0]) ∧ (∀ j, j < W * H → w'.cell? ⟨g', 0 + j, none⟩ = some (.bool (decide (z j < levelGo z (W * H) 100 ((mn + mx + 1) / 2))))) ∧ Below w.heap.size w w' := by
  obtain ⟨⟨a1, a2, a3, a4⟩, z0, z1⟩ := sizeErr_zero hs
  have HS := Lib.hid hs
  have HZ := Lib.hid hzb
  have HC := Lib.hid hp
  have HMN := Lib.hid hmn
  have HMX := Lib.hid hmx
  have hlb := levelGo_bounds z hzb (W * H) 100 _ (start_bounds hzb hmn hmx)
  obtain ⟨L, hL⟩ : ∃ L, L = levelGo z (W * H) 100 ((mn + mx + 1) / 2) := ⟨_, rfl⟩
  rw [← hL] at hlb ⊢
  have HL := Lib.hid hL
  clear hs hzb hp z0 z1 hmn hmx hL
  go_enter Try.func76, Try.ntmps76
  go_wp2_with fail
  obtain ⟨w1, hw1⟩ : ∃ w1, w1 = ((w.alloc (.cells #[.int .i64 W, .int .i64 H, .slice (some ⟨g, o, none⟩) (W * H) c] 27)).alloc (.cells #[.int .i64 0, .int .i64 0, .slice none 0 0] 24)) := ⟨_, rfl⟩
  have B1 : Below w.heap.size w w1 := by rw [hw1]; exact below_alloc (new_below _ _) _
  have q0 : w1.cell? ⟨w.heap.size, 0, none⟩ = some (.int .i64 W) := by rw [hw1]; go_simp
  have q1 : w1.cell? ⟨w.heap.size, 1, none⟩ = some (.int .i64 H) := by rw [hw1]; go_simp
  have q2 : w1.cell? ⟨w.heap.size, 2, none⟩ = some (.slice (some ⟨g, o, none⟩) (W * H) c) := by rw [hw1]; go_simp
  have qb : w1.heap[w.heap.size + 1]? = some (.cells #[.int .i64 0, .int .i64 0, .slice none 0 0] 24 (0, 0)) := by
    rw [hw1]
    simpa using heap_alloc_new (w.alloc (.cells #[.int .i64 W, .int .i64 H, .slice (some ⟨g, o, none⟩) (W * H) c] 27)) (.cells #[.int .i64 0, .int .i64 0, .slice none 0 0] 24)
  rw [← hw1]
  clear hw1
  have LQ := Lib.hid (Array.getElem?_eq_some_iff.1 qb).1
  have HB1 := Lib.hid B1
  refine (level_ok W H g o (W * H) c z w1 HS.out rfl HZ.out (fun j hj => cell_later B1 (HC.out j hj))).mono ?_
  rintro e w2 ⟨mn', mx', h1, h2, rfl, hb2⟩
  obtain rfl := h1.one HMN.out
  obtain rfl := h2.one HMX.out
  rw [← HL.out]
  have k0 := cell_later hb2 q0
  have k1 := cell_later hb2 q1
  have k2 := cell_later hb2 q2
  have kb := below_block hb2 qb
  have HB2 := Lib.hid (below_step B1 hb2)
  have L2 := Lib.hid (Nat.lt_of_lt_of_le LQ.out hb2.size)
  clear q0 q1 q2 qb hb2 B1 h1 h2
  go_wp2_with fail
  refine (toBits_ok W H g o c L z w2 HS.out ⟨hlb.1, by omega⟩ HZ.out (fun j hj => cell_later HB2.out (HC.out j hj))).mono ?_
  rintro e w3 ⟨v, rfl, hown, hb3⟩
  obtain ⟨g', c', rfl, hg', hz⟩ := owns_pageB hown (Nat.mul_pos (by omega) (by omega))
  obtain ⟨j0, j1, j2, r0, r1, r2⟩ := block3 (below_block hb3 kb)
  have F := Lib.hid hz
  have G := Lib.hid hb3
  have HG := Lib.hid hg'
  clear k0 k1 k2 kb hown hz hb3 hg'
  go_wp2_with fail
  refine bodyPost_ret (v := .tuple #[.agg #[.int .i64 W, .int .i64 H, .slice (some ⟨g', 0, none⟩) (W * H) c'], .int .i64 0]) (by simp [results, Try.results76, go_sem, j0, j1, j2]) rfl ?_
  have hl := L2.out
  have hg := HG.out
  refine ⟨g', c', rfl, fun j hj => ?_, below_far3 (below_step HB2.out G.out) (by omega)⟩
  have := F.out j hj
  rw [row_back] at this
  exact cell_far3 (by simp; omega) this

set_option maxHeartbeats 400000 in
set_option maxRecDepth 100000 in
theorem levels1_any (W H x y gb tb pb po c : Nat) (P : Nat → Int) (t : Int) (w : World) (hW : W ≤ 4000) (hH : H ≤ 4000) (hx : x < W) (hy : y < H) (hP : 0 ≤ P (y * W + x) ∧ P (y * W + x) ≤ 255)
    (h0 : w.cell? ⟨gb, 0, none⟩ = some (.int .i64 W)) (h2 : w.cell? ⟨gb, 2, none⟩ = some (.slice (some ⟨pb, po, none⟩) (W * H) c)) (h3 : w.cell? ⟨tb, 0, none⟩ = some (.int .i64 t)) (hp : w.cell? ⟨pb, po + (y * W + x), none⟩ = some (.int .u8 (P (y * W + x)))) :
    Calls Try.prog 78 #[.int .i64 x, .int .i64 y, .pointer (some ⟨gb, 0, none⟩), .pointer (some ⟨tb, 0, none⟩)] w fun e w' => e = .returned (.bool (decide (P (y * W + x) < t))) ∧ Below w.heap.size w w' := by
  have hfit := row_fits hy (show x + 1 ≤ W by omega)
  have hN := Nat.mul_le_mul hW hH
  have x0 : (0 : Int) ≤ (y : Int) * (W : Int) := Int.mul_nonneg (by omega) (by omega)
  have x1 : (y : Int) * (W : Int) + (x : Int) < ((W * H : Nat) : Int) := by rw [← Int.natCast_mul]; omega
  have x3 : (y : Int) * (W : Int) + (x : Int) < (W : Int) * (H : Int) := by rw [← Int.natCast_mul, ← Int.natCast_mul]; omega
  have x2 : ((W * H : Nat) : Int) ≤ 16000000 := by omega
  obtain ⟨p, hpe⟩ : ∃ p, p = P (y * W + x) := ⟨_, rfl⟩
  rw [← hpe] at hp hP ⊢
  clear hfit hN hpe
  go_enter Try.func78, Try.ntmps78
  go_wp2_with fail
  go_quiet (fail)
  go_wp2
  go_ret
  exact ⟨rfl, below_drewN (Below.refl _ _) _⟩

set_option maxHeartbeats 2000000 in
set_option maxRecDepth 100000 in
theorem levels_any (a b : Int) (s : Option Addr) (n c : Nat) (zs : List Int) (w : World) (hn : n ≤ 9223372036854775807) (hs : IsBytes w s n c zs) :
    Calls Try.prog 7 #[.agg #[.int .i64 a, .int .i64 b, .slice s n c]] w fun e w' => e = .returned (.bool true) ∧ Below w.heap.size w w' := by
  have hmf : ∀ (fn : Fn) (first cap : Array Value) (w : World), (Instr.makeFunc fn first cap).run Try.prog w = .ok (.func fn first cap) w := fun _ _ _ _ => rfl
  have HS := Lib.hid hs
  clear hs
  go_enter Try.func7, Try.ntmps7
  go_wp2_with ((go_at_call 73; refine (landed_any _).mono ?_; rintro e w' ⟨rfl, rfl⟩))
  obtain ⟨w1, hw1⟩ : ∃ w1, w1 = w.alloc (.cells #[.int .i64 a, .int .i64 b, .slice s n c] 27) := ⟨_, rfl⟩
  have B1 : Below w.heap.size w w1 := by rw [hw1]; exact new_below _ _
  have qb : w1.heap[w.heap.size]? = some (.cells #[.int .i64 a, .int .i64 b, .slice s n c] 27 (0, 0)) := by rw [hw1]; exact heap_alloc_new _ _
  rw [← hw1]
  clear hw1
  refine (fitGray_any a b s n c zs w1 hn (isBytes_later HS.out B1)).mono ?_
  rintro e w2 ⟨W, H, g, cc, z, rfl, ⟨hW1, hW2, hH1, hH2⟩, hzb, hz, hg, hb2⟩
  obtain ⟨j0, j1, j2, r0, r1, r2⟩ := block3 (below_block hb2 qb)
  have l1 := Lib.hid (Array.getElem?_eq_some_iff.1 qb).1
  have B2 := Lib.hid (below_step B1 hb2)
  have QB := Lib.hid (below_block hb2 qb)
  have HZ := Lib.hid hz
  have HZB := Lib.hid hzb
  have hg' := Lib.hid hg
  clear hz hzb hb2 B1 qb hg
  go_wp2_with fail
  obtain ⟨w3, hw3⟩ : ∃ w3, w3 = (((w2.setCell ⟨w.heap.size, 0, none⟩ (.int .i64 W)).setCell ⟨w.heap.size, 1, none⟩ (.int .i64 H)).setCell ⟨w.heap.size, 2, none⟩ (.slice (some ⟨g, 0, none⟩) (W * H) cc)) := ⟨_, rfl⟩
  have B3 : Below w.heap.size w w3 := by rw [hw3]; exact below_far3 B2.out (Nat.le_refl _)
  have qb : w3.heap[w.heap.size]? = some (.cells #[.int .i64 W, .int .i64 H, .slice (some ⟨g, 0, none⟩) (W * H) cc] 27 (0, 0)) := by rw [hw3]; exact far3_same QB.out
  have hz3 : ∀ j, j < W * H → w3.cell? ⟨g, 0 + j, none⟩ = some (.int .u8 (z j)) := fun j hj => by
    rw [hw3]
    exact cell_far3 (by have := l1.out; have := hg'.out; simp; omega) (HZ.out j hj)
  obtain ⟨q0, q1, q2, _, _, _⟩ := block3 qb
  rw [← hw3]
  clear hw3 j0 j1 j2 r0 r1 r2
  obtain ⟨he, hpe, hN1, hN2⟩ := small_size16 ⟨hW1, hW2⟩ ⟨hH1, hH2⟩
  have HE := Lib.hid he
  have HZ3 := Lib.hid hz3
  have HB3 := Lib.hid B3
  clear he hpe hz3 B3 HZ QB qb
  refine (level_ok W H g 0 (W * H) cc z w3 HE.out rfl HZB.out HZ3.out).mono ?_
  rintro e w4 ⟨mn, mx, hmn, hmx, rfl, hb4⟩
  have HMN := Lib.hid hmn
  have HMX := Lib.hid hmx
  have k0 := cell_later hb4 q0
  have k1 := cell_later hb4 q1
  have k2 := cell_later hb4 q2
  have HB4 := Lib.hid hb4
  obtain ⟨L, hL⟩ : ∃ L, L = levelGo z (W * H) 100 ((mn + mx + 1) / 2) := ⟨_, rfl⟩
  rw [← hL]
  have HL := Lib.hid hL
  clear hmn hmx q0 q1 q2 hb4 hL
  go_wp2_with fail
  refine (auto_ok W H g 0 cc mn mx z w4 HE.out HZB.out HMN.out HMX.out (fun j hj => cell_later HB4.out (HZ3.out j hj))).mono ?_
  rintro e w5 ⟨g5, c5, rfl, hz5, hb5⟩
  rw [← HL.out] at hz5
  have q0 := cell_later hb5 k0
  have q1 := cell_later hb5 k1
  have q2 := cell_later hb5 k2
  have l0 := World.block_lt_of_cell? _ _ q0
  simp only at l0
  have HB5 := Lib.hid hb5
  have HZ5 := Lib.hid hz5
  clear k0 k1 k2 hb5 hz5
  go_wp2_with fail
  obtain ⟨w6, hw6⟩ : ∃ w6, w6 = w5.alloc (.cells #[.int .i64 W, .int .i64 H, .slice (some ⟨g5, 0, none⟩) (W * H) c5] 24) := ⟨_, rfl⟩
  have B6 : Below w5.heap.size w5 w6 := by rw [hw6]; exact new_below _ _
  obtain ⟨a0, a1, a2, _, _, _⟩ := block3 (w := w6) (b := w5.heap.size) (x := .int .i64 W) (y := .int .i64 H) (z := .slice (some ⟨g5, 0, none⟩) (W * H) c5) (t := 24) (by rw [hw6]; exact heap_alloc_new _ _)
  have k0 := cell_later B6 q0
  have k1 := cell_later B6 q1
  have k2 := cell_later B6 q2
  rw [← hw6]
  clear hw6 q0 q1 q2
  have z6 := Lib.hid (fun j (hj : j < W * H) => cell_later (below_step (below_step HB4.out HB5.out) B6) (HZ3.out j hj))
  have s6 := Lib.hid (fun j (hj : j < W * H) => cell_later B6 (HZ5.out j hj))
  have HB6 := Lib.hid (below_step (below_step (below_step HB3.out HB4.out) HB5.out) B6)
  clear B6 HB4 HB5 HZ3 HZ5
  refine (levelR_any W H mn mx g 0 (W * H) cc z w6 hN1 (by omega) HZB.out HMN.out HMX.out z6.out).mono ?_
  rintro e w7 ⟨rfl, hb7⟩
  rw [← HL.out]
  have q0 := cell_later hb7 k0
  have q1 := cell_later hb7 k1
  have q2 := cell_later hb7 k2
  have b0 := cell_later hb7 a0
  have b1 := cell_later hb7 a1
  have b2 := cell_later hb7 a2
  have l0' := World.block_lt_of_cell? _ _ q0
  have l1' := World.block_lt_of_cell? _ _ b0
  simp only at l0' l1'
  have z7 := Lib.hid (fun j (hj : j < W * H) => cell_later hb7 (z6.out j hj))
  have s7 := Lib.hid (fun j (hj : j < W * H) => cell_later hb7 (s6.out j hj))
  have HB7 := Lib.hid (below_step HB6.out hb7)
  clear k0 k1 k2 a0 a1 a2 hb7 z6 s6 HB6 l0
  go_wp2_with fail
  obtain ⟨w8, hw8⟩ : ∃ w8, w8 = w7.alloc (.cells #[.int .i64 L] 3) := ⟨_, rfl⟩
  have B8 : Below w7.heap.size w7 w8 := by rw [hw8]; exact new_below _ _
  have t0 : w8.cell? ⟨w7.heap.size, 0, none⟩ = some (.int .i64 L) := by rw [hw8]; go_simp
  have k0 := cell_later B8 q0
  have k1 := cell_later B8 q1
  have k2 := cell_later B8 q2
  have a0 := cell_later B8 b0
  have a1 := cell_later B8 b1
  have a2 := cell_later B8 b2
  rw [← hw8]
  clear hw8 q0 q1 q2 b0 b1 b2
  have z8 := Lib.hid (fun j (hj : j < W * H) => cell_later B8 (z7.out j hj))
  have s8 := Lib.hid (fun j (hj : j < W * H) => cell_later B8 (s7.out j hj))
  have HB8 := Lib.hid (below_step HB7.out B8)
  clear B8 z7 s7 HB7
  refine (made_any W H 78 _ (fun x y => decide (z (y * W + x) < L)) w8 (by omega) (by omega) (by omega) (by omega) (Go.Proofs.enters_of Try.func78 (by kernel_rfl) rfl) ?_).mono ?_
  · intro x y wx hx hy hbx
    have hfit := row_fits hy (show x + 1 ≤ W by omega)
    exact levels1_any W H x y w.heap.size w7.heap.size g 0 cc z L wx (by omega) (by omega) hx hy (HZB.out _) (cell_later hbx k0) (cell_later hbx k2) (cell_later hbx t0) (cell_later hbx (z8.out _ (by omega)))
  · rintro e w9 ⟨v, rfl, hown, hb9⟩
    obtain ⟨g9, c9, rfl, hg9, hz9⟩ := owns_pageB hown (by omega)
    have q0 := cell_later hb9 a0
    have q1 := cell_later hb9 a1
    have q2 := cell_later hb9 a2
    have tt := cell_later hb9 t0
    have m0 := World.block_lt_of_cell? _ _ tt
    have m1 := World.block_lt_of_cell? _ _ q0
    simp only at m0 m1
    have z9 : ∀ j, j < W * H → w9.cell? ⟨g9, 0 + j, none⟩ = some (.bool (decide (z j < L))) := fun j hj => by have := hz9 j hj; rwa [row_back] at this
    have Z9 := Lib.hid z9
    have S9 := Lib.hid (fun j (hj : j < W * H) => cell_later hb9 (s8.out j hj))
    have HB9 := Lib.hid (below_step HB8.out hb9)
    clear hown hb9 hz9 z9 a0 a1 a2 t0 k0 k1 k2 s8 z8 HB8 hg9 l0' l1'
    go_wp2_with fail
    obtain ⟨w10, hw10⟩ : ∃ w10, w10 = w9.alloc (.cells #[.int .i64 W, .int .i64 H, .slice (some ⟨g9, 0, none⟩) (W * H) c9] 24) := ⟨_, rfl⟩
    have B10 : Below w9.heap.size w9 w10 := by rw [hw10]; exact new_below _ _
    rw [← hw10]
    clear hw10
    refine (sameBits_true W H g5 0 g9 0 (W * H) c5 c9 (fun j => decide (z j < L)) w10 (by omega) (fun j hj => cell_later B10 (S9.out j hj)) (fun j hj => cell_later B10 (Z9.out j hj))).mono ?_
    rintro e w11 ⟨rfl, hb11⟩
    go_wp2_with fail
    go_ret
    exact ⟨rfl, below_step (below_step HB9.out B10) hb11⟩

end Go.Proofs.Ytcpgnfbjdokdcaa
namespace Go.Proofs.Ytcpgnfbjdokdcaa
open Go.ChangeShapes Go.WideShapes Go.ChangeAt Go.RowKit Go.Joins
open Go.ChangeMaps (open_string shut_string)
set_option linter.unusedVariables false

set_option maxRecDepth 100000 in
/-- A page in grey by value, opened. -/
theorem open_grayN {W : World} {H : Type} {enc : TypeId × Value → H} {base : Nat} {held : Bool} {r : Reach} {b0 : Nat} {v : Value} {d : DataW H} {p : List MemPlace}
    (hv : Value.okWide Try.prog W r b0 27 v) (h : DataW.Trod enc Try.prog W base (fun _ => true) held 27 v d p) :
    ∃ a b s n c zs, v = .agg #[.int .i64 a, .int .i64 b, .slice s n c] ∧ IsBytes W s n c zs ∧ n ≤ 9223372036854775807 := by
  obtain ⟨c0, c1, c2, y0, y1, y2, m, rfl, rfl, rfl, hy0, hy1, hy2⟩ := open_agg3 Try.underlying27 (by kernel_rfl) cellsGray hv h
  obtain ⟨a, e0, rfl, wa⟩ := DataW.trod_int Try.underlying3 hy0
  obtain ⟨b, e1, rfl, wb⟩ := DataW.trod_int Try.underlying3 hy1
  simp at e0 e1
  subst e0 e1
  rcases open_ints Try.underlying25 Try.underlying5 cellsByte hy2 with ⟨hcs, _⟩ | ⟨x, l, c, zs, hcs, _, hl, hm, hz, _, hcell, hwz⟩
  · simp at hcs
    subst hcs
    exact ⟨a, b, none, 0, 0, [], rfl, .inl ⟨rfl, rfl, rfl, rfl⟩, by decide⟩
  · simp at hcs
    subst hcs
    exact ⟨a, b, some x, l, c, zs, rfl, .inr ⟨x, rfl, hl, by simpa using hz, hcell, hwz⟩, by unfold maxLen at hm; omega⟩

end Go.Proofs.Ytcpgnfbjdokdcaa
namespace Go.Proofs.Ytcpgnfbjdokdcaa
open Go.ChangeShapes Go.WideShapes Go.ChangeAt Go.RowKit Go.Joins
open Go.ChangeMaps (open_string shut_string)
set_option linter.unusedVariables false

set_option maxRecDepth 100000 in
theorem levels_lifted (os : Os) (started : os.Started) (H : Type) (enc : TypeId × Value → H) :
    ReturnsInHanded {} Try.checked os 7 .any (Rows.levelsMatchSpec.pre6 enc Try.prog Try.f7 Rows.levelsMatchRow.domain false) (Rows.levelsMatchSpec.post enc Try.prog Try.f7 false true false false) := by
  refine returnsInHanded_of_change (C := Try.checked) own started (by kernel_rfl) Try.func7
    (ChangeSpec.witness6 (enc := enc) (C := Try.checked) false ⟨#[], #[.agg #[.int .i64 0, .int .i64 0, .slice none 0 0]], []⟩ 8 (by kernel_rfl) (by kernel_rfl) (by kernel_rfl) (by kernel_rfl)) ?_
  intro W base args ds gs before hval0 hW hcnd _
  have hval : ∀ (j : Nat) t v, Try.f7.params[j]? = some t → args[j]? = some v → Value.okWide Try.prog W .any base t v := hval0
  have hW' := hW
  obtain ⟨p, q, hA0, hV, rfl, hfz, hnd⟩ := hW
  have hA : DataW.TrodAll enc Try.prog W 0 (fun _ => true) true Try.f7.params.toList args.toList ds p := hA0
  rw [Try.params7] at hA hval
  obtain ⟨v0, vs0, d0, ds0, p0, q0, hargs, rfl, rfl, h0, r0⟩ := trodAll_cons hA
  obtain ⟨rfl, rfl, rfl⟩ := trodAll_nil r0
  obtain rfl : args = #[v0] := by cases args; simp_all
  obtain ⟨rfl, rfl⟩ := trodVars_none hV
  have k0 := h0
  have lt0 : ∀ x ∈ p0, x.block < W.heap.size := by obtain ⟨m, hm⟩ := k0; exact DataW.trod_lt m _ _ _ hm
  obtain ⟨a, b, s, n, c, zs, rfl, hs, hn⟩ := open_grayN (hval 0 27 v0 rfl rfl) h0
  clear hA0 hval0
  refine (levels_any a b s n c zs W hn hs).mono fun e W' ⟨he, bel⟩ => ?_
  subst he
  exact ⟨_, rfl, _, _, _, [], _, [], hW', trodAll_mk1 (shut_bool Try.underlying4 _), (trodAll_cons_mk (Below.trod laidOut (by kernel_rfl) (of_decide_eq_true (by kernel_rfl)) k0 bel lt0) trodAll_mk0), rfl, bel.frame _, fun h => by cases h⟩

theorem levels_over : Rows.levelsMatchRow.holds Try.pinned (OpenSpec.ofChange Rows.levelsMatchSpec) :=
  OpenClaim.holds_of_wide 7 Try.f7 rfl rfl rfl rfl rfl rfl rfl ⟨rfl, rfl, rfl, rfl, rfl⟩ rfl rfl rfl rfl rfl (by kernel_rfl) Try.func7 (by kernel_rfl)
    (of_decide_eq_true (by kernel_rfl)) (by unfold Func.isWrapper; first | (rw [if_pos (by decide +kernel)]; kernel_rfl) | (rw [if_neg (by decide +kernel)]; exact ⟨rfl, rfl⟩))
    (fun os started H enc _ => levels_lifted os started H enc)

theorem levels_holds : Rows.LevelsMatchSaid := levels_over
end Go.Proofs.Ytcpgnfbjdokdcaa
