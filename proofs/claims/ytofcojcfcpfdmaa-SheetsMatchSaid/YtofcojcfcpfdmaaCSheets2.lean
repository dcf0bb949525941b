/-
  What sheets_holds leans on: contracts of the functions that it calls.
-/
import Derived.Test.YtofcojcfcpfdmaaRows
import Derived.WalkKit
import Derived.WalkSpells
import Derived.WalkLawsBesides
import Derived.Lib.Hide
import Derived.Deep.RegionHeld3
import Derived.Shelf.Abstract
import Derived.Deep.AppendLies
import Derived.Deep.DrawnRows
import Derived.Deep.RegionLaw
import Derived.Deep.QuietTactic
import Derived.BigQuiet
import Derived.ProofKit
import Derived.OpenShut
import Derived.ShutString
import Derived.ChangeOld
import Derived.Lib.SmallJoins
import Derived.Deep.Grids
import Derived.Deep.DeepCutAuto
import Derived.Lib.MinMax
import Derived.Deep.CutRange
import Derived.Laws.EntriesVeiled
import Derived.StillTailTactics
import Derived.Test.YtofcojcfcpfdmaaCSheets1
namespace Go.Proofs.Ytofcojcfcpfdmaa
open Go.RowKit
set_option linter.unusedSimpArgs false
set_option linter.unusedVariables false
attribute [local go_sem ↓] Go.wp_at_zero Go.wp_at_succ

/-- What holds while Made runs: n values are there; they lie in a row of their own, which the page's variable leads to. -/
def MadeRelY (w h : Nat) (f : Nat → Nat → Int) (W0 : World) (n : Nat) (wr : World) (v : Value) : Prop :=
  wr.ownsRow (W0.heap.size + 2) 5 1 v n ((places w f n).map (Value.int .u8)) ∧ wr.heap[W0.heap.size]? = some (.cells #[.int .i64 0, .int .i64 0, .slice none 0 0] 24 (0, 0)) ∧
  wr.heap[W0.heap.size + 1]? = some (.cells #[.int .i64 w, .int .i64 h, v] 24 (0, 0)) ∧ Below W0.heap.size W0 wr

theorem MadeRelY.later {w h : Nat} {f : Nat → Nat → Int} {W0 wr w' : World} {n : Nat} {v : Value} (hr : MadeRelY w h f W0 n wr v) (hb : Below wr.heap.size wr w') : MadeRelY w h f W0 n w' v :=
  ⟨below_owns hr.1 hb, below_block hb hr.2.1, below_block hb hr.2.2.1, below_step hr.2.2.2 hb⟩

theorem MadeRelY.stored {w h : Nat} {f : Nat → Nat → Int} {W0 wr w1 : World} {v v' : Value} {x y : Nat} (hr : MadeRelY w h f W0 (y * w + x) wr v) (hx : x < w) (q : Int) (hq : q = f x y)
    (hown : w1.ownsRow (W0.heap.size + 2) 5 1 v' (y * w + x + 1) ((places w f (y * w + x)).map (Value.int .u8) ++ [Value.int .u8 q])) (hg : wr.grownBy w1 v.ownBlock) :
    MadeRelY w h f W0 (y * w + x + 1) (w1.setCell ⟨W0.heap.size + 1, 2, none⟩ v') v' := by
  obtain ⟨h1, h2, h3, h4⟩ := hr
  have hrow : ∀ k, v.ownBlock = some k → W0.heap.size + 2 ≤ k := fun k hk => (h1.lt k hk).1
  have n0 : some W0.heap.size ≠ v.ownBlock := fun e => by have := hrow _ e.symm; omega
  have n1 : some (W0.heap.size + 1) ≠ v.ownBlock := fun e => by have := hrow _ e.symm; omega
  refine ⟨?_, ?_, ?_, ?_⟩
  · rw [places_succ w f x y hx, List.map_append, ← hq]
    exact ownsRow_setCell_below hown (by simp) _
  · rw [Below.heap_setCell _ _ _ _ (by simp)]
    exact grown_block hg h2 n0
  · exact heap_setCell_same w1 (W0.heap.size + 1) 2 #[.int .i64 w, .int .i64 h, v] 24 v' (grown_block hg h3 n1)
  · exact (h4.grown hg h4.size (fun k hk => by have := hrow k hk; omega)).setCell (by simp) _

end Go.Proofs.Ytofcojcfcpfdmaa
namespace Go.Proofs.Ytofcojcfcpfdmaa
open Go.RowKit
set_option linter.unusedSimpArgs false
set_option linter.unusedVariables false

set_option maxRecDepth 100000 in
theorem cutOf1_any (W H X Y bw bh x y pb xb g o n c : Nat) (q : Bool) (w : World) (hW : W ≤ 4000) (hH : H ≤ 4000) (hX : X + bw ≤ W) (hY : Y + bh ≤ H) (hx : x < bw) (hy : y < bh) (hn : n = W * H)
    (c1 : w.cell? ⟨pb, 0, none⟩ = some (.int .i64 W)) (c1' : w.cell? ⟨pb, 1, none⟩ = some (.int .i64 H)) (c1'' : w.cell? ⟨pb, 2, none⟩ = some (.slice (some ⟨g, o, none⟩) n c)) (c2 : w.cell? ⟨xb, 0, none⟩ = some (.int .i64 X)) (c3 : w.cell? ⟨xb, 1, none⟩ = some (.int .i64 Y))
    (hc : w.cell? ⟨g, o + ((Y + y) * W + X + x), none⟩ = some (.bool q)) :
    Calls Try.prog 131 #[.int .i64 x, .int .i64 y, .pointer (some ⟨pb, 0, none⟩), .pointer (some ⟨xb, 0, none⟩)] w fun e w' => e = .returned (.bool q) ∧ Below w.heap.size w w' := by
  subst hn
  have hA := at_in W H g o c (X + x) (Y + y) q w (by omega) (by omega) (by omega) (by omega) (by rw [show o + ((Y + y) * W + (X + x)) = o + ((Y + y) * W + X + x) by omega]; exact hc)
  rw [show ((X + x : Nat) : Int) = (X : Int) + (x : Int) by omega, show ((Y + y : Nat) : Int) = (Y : Int) + (y : Int) by omega] at hA
  have HA := Lib.hid hA
  clear hA hc
  go_enter Try.func131, Try.ntmps131
  go_wp2_with (go_at_call 86; refine HA.out.mono ?_; rintro e w1 ⟨rfl, hb1⟩)
  go_ret
  exact ⟨rfl, hb1⟩

set_option maxHeartbeats 400000 in
set_option maxRecDepth 100000 in
theorem cutOf_any (W H X Y bw bh g o n c : Nat) (z : Nat → Bool) (w : World) (hW : W ≤ 4000) (hH : H ≤ 4000) (hX : X + bw ≤ W) (hY : Y + bh ≤ H) (hb1 : 1 ≤ bw) (hb2 : 1 ≤ bh) (hn : n = W * H) (hN : n ≤ 1048576)
    (hc : ∀ j, j < n → w.cell? ⟨g, o + j, none⟩ = some (.bool (z j))) :
    Calls Try.prog 105 #[.agg #[.int .i64 W, .int .i64 H, .slice (some ⟨g, o, none⟩) n c], .agg #[.int .i64 X, .int .i64 Y, .int .i64 bw, .int .i64 bh]] w fun e w' =>
      ∃ v, e = .returned (.agg #[.int .i64 bw, .int .i64 bh, v]) ∧ w'.ownsRow w.heap.size 4 1 v (bw * bh) ((places bw (fun x y => z ((Y + y) * W + X + x)) (bw * bh)).map Value.bool) ∧ Below w.heap.size w w' := by
  have hmf : ∀ (fn : Fn) (first cap : Array Value) (w : World), (Instr.makeFunc fn first cap).run Try.prog w = .ok (.func fn first cap) w := fun _ _ _ _ => rfl
  have HC := Lib.hid hc
  have HN := Lib.hid hn
  clear hc hn
  go_enter Try.func105, Try.ntmps105
  go_wp2_with fail
  obtain ⟨w1, hw1⟩ : ∃ w1, w1 = ((w.alloc (.cells #[.int .i64 W, .int .i64 H, .slice (some ⟨g, o, none⟩) n c] 40)).alloc (.cells #[.int .i64 X, .int .i64 Y, .int .i64 bw, .int .i64 bh] 65)).alloc (.cells #[.int .i64 0, .int .i64 0, .slice none 0 0] 40) := ⟨_, rfl⟩
  have B1 : Below w.heap.size w w1 := by rw [hw1]; exact below_alloc (below_alloc (new_below _ _) _) _
  have q0 : w1.cell? ⟨w.heap.size, 0, none⟩ = some (.int .i64 W) := by rw [hw1]; go_simp
  have q1 : w1.cell? ⟨w.heap.size, 1, none⟩ = some (.int .i64 H) := by rw [hw1]; go_simp
  have q2 : w1.cell? ⟨w.heap.size, 2, none⟩ = some (.slice (some ⟨g, o, none⟩) n c) := by rw [hw1]; go_simp
  have q3 : w1.cell? ⟨w.heap.size + 1, 0, none⟩ = some (.int .i64 X) := by rw [hw1]; go_simp
  have q4 : w1.cell? ⟨w.heap.size + 1, 1, none⟩ = some (.int .i64 Y) := by rw [hw1]; go_simp
  have qb : w1.heap[w.heap.size + 1 + 1]? = some (.cells #[.int .i64 0, .int .i64 0, .slice none 0 0] 40 (0, 0)) := by
    rw [hw1]
    simpa using heap_alloc_new ((w.alloc (.cells #[.int .i64 W, .int .i64 H, .slice (some ⟨g, o, none⟩) n c] 40)).alloc (.cells #[.int .i64 X, .int .i64 Y, .int .i64 bw, .int .i64 bh] 65)) (.cells #[.int .i64 0, .int .i64 0, .slice none 0 0] 40)
  rw [← hw1]
  clear hw1
  have lt3 := (Array.getElem?_eq_some_iff.1 qb).1
  have hbb := Nat.mul_le_mul (show bw ≤ W by omega) (show bh ≤ H by omega)
  rw [← HN.out] at hbb
  refine (made_any bw bh 131 _ (fun x y => z ((Y + y) * W + X + x)) w1 hb1 (by omega) (by omega) (by omega) (Go.Proofs.enters_of Try.func131 (by kernel_rfl) rfl) ?_).mono ?_
  · intro x y wx hx hy hbx
    have hlt := in_page_lt hX hY hx hy
    rw [← HN.out] at hlt
    exact cutOf1_any W H X Y bw bh x y w.heap.size (w.heap.size + 1) g o n c _ wx hW hH hX hY hx hy HN.out (cell_later hbx q0) (cell_later hbx q1) (cell_later hbx q2) (cell_later hbx q3) (cell_later hbx q4) (cell_later hbx (cell_later B1 (HC.out _ hlt)))
  · rintro e w5 ⟨v, rfl, hown, hb5⟩
    obtain ⟨j0, j1, j2, r0, r1, r2⟩ := block3 (below_block hb5 qb)
    obtain ⟨va, vn, vc, rfl⟩ := owns_shape hown
    have F := Lib.hid hown
    have G := Lib.hid hb5
    have L := Lib.hid lt3
    clear hown hb5 hbb lt3 q0 q1 q2 q3 q4
    go_wp2_with fail
    refine bodyPost_ret (v := .agg #[.int .i64 bw, .int .i64 bh, .slice va vn vc]) (by simp [results, Try.results105, go_sem, j0, j1, j2]) rfl ⟨_, rfl, owns_far3 F.out L.out B1.size, below_far3 (below_step B1 G.out) (by omega)⟩

end Go.Proofs.Ytofcojcfcpfdmaa
namespace Go.Proofs.Ytofcojcfcpfdmaa
open Go.ChangeShapes Go.WideShapes Go.ChangeAt Go.RowKit Go.Joins
open Go.ChangeMaps (open_string shut_string)
set_option linter.unusedVariables false

theorem own : ownKnob Try.prog.godebug = none := by kernel_rfl
theorem laidOut : laidOutB Try.prog = true := by kernel_rfl
theorem cellsGray : Try.prog.cellsOf 24 = 3 := by kernel_rfl
theorem cellsBits : Try.prog.cellsOf 40 = 3 := by kernel_rfl
theorem cellsByte : Try.prog.cellsOf 5 = 1 := by kernel_rfl

/-- A slice of bytes that came in: nil; or its cells hold the numbers zs, each a byte. -/
def IsBytes (w : World) (a : Option Addr) (len cap : Nat) (zs : List Int) : Prop :=
  (a = none ∧ len = 0 ∧ cap = 0 ∧ zs = []) ∨
  ∃ x, a = some x ∧ len ≤ cap ∧ zs.length = cap ∧ (∀ i, i < zs.length → w.cell? (x.add i) = some (.int .u8 (zs.getD i 0))) ∧ ∀ n ∈ zs, (Lit.int .u8 n).wf = true

theorem isBytes_cells {w : World} {a : Option Addr} {len cap : Nat} {zs : List Int} (h : IsBytes w a len cap zs) (hl : 1 ≤ len) :
    ∃ pb po, a = some ⟨pb, po, none⟩ ∧ (∀ j, j < len → w.cell? ⟨pb, po + j, none⟩ = some (.int .u8 (zs.getD j 0))) ∧ ∀ j, 0 ≤ zs.getD j 0 ∧ zs.getD j 0 ≤ 255 := by
  rcases h with ⟨_, h0, _⟩ | ⟨⟨pb, po, spot⟩, rfl, hlc, hz, hcell, hwf⟩
  · omega
  · have hspot : spot = none := by simpa [Addr.add] using World.cell?_spot (hcell 0 (by omega))
    subst hspot
    refine ⟨pb, po, rfl, fun j hj => by have := hcell j (by omega); rwa [Addr.add_lit] at this, fun j => ?_⟩
    by_cases hj : j < zs.length
    · have hm : zs.getD j 0 ∈ zs := by rw [List.getD_eq_getElem?_getD, List.getElem?_eq_getElem hj]; exact List.getElem_mem hj
      have hmin : IntKind.u8.min = 0 := rfl
      have hmax : IntKind.u8.max = 255 := rfl
      have := hwf _ hm
      simp only [Lit.wf, Bool.and_eq_true, decide_eq_true_eq] at this
      omega
    · rw [List.getD_eq_getElem?_getD, List.getElem?_eq_none (by omega)]
      simp

theorem cellsBool : Try.prog.cellsOf 4 = 1 := by kernel_rfl

/-- A slice of bools that came in: nil; or its cells hold what B tells. -/
def IsBools (w : World) (a : Option Addr) (len cap : Nat) (B : Nat → Bool) : Prop :=
  (a = none ∧ len = 0 ∧ cap = 0) ∨ ∃ x, a = some x ∧ ∀ i, i < len → w.cell? (x.add i) = some (.bool (B i))

theorem isBools_cells {w : World} {a : Option Addr} {len cap : Nat} {B : Nat → Bool} (h : IsBools w a len cap B) (hl : 1 ≤ len) :
    ∃ pb po, a = some ⟨pb, po, none⟩ ∧ ∀ j, j < len → w.cell? ⟨pb, po + j, none⟩ = some (.bool (B j)) := by
  rcases h with ⟨_, h0, _⟩ | ⟨⟨pb, po, spot⟩, rfl, hcell⟩
  · omega
  · have hspot : spot = none := by simpa [Addr.add] using World.cell?_spot (hcell 0 (by omega))
    subst hspot
    exact ⟨pb, po, rfl, fun j hj => by have := hcell j hj; rwa [Addr.add_lit] at this⟩

theorem isBools_later {w w' : World} {a : Option Addr} {len cap : Nat} {B : Nat → Bool} (h : IsBools w a len cap B) (hb : Below w.heap.size w w') : IsBools w' a len cap B := by
  rcases h with h | ⟨x, h1, h2⟩
  · exact .inl h
  · exact .inr ⟨x, h1, fun i hi => (hb.cell (World.block_lt_of_cell? _ _ (h2 i hi))).trans (h2 i hi)⟩

end Go.Proofs.Ytofcojcfcpfdmaa
namespace Go.Proofs.Ytofcojcfcpfdmaa
open Go.RowKit
set_option linter.unusedSimpArgs false
set_option linter.unusedVariables false

instance (X Y bw bh W H : Int) : Decidable (InP X Y bw bh W H) := by unfold InP; infer_instance

/-- The error of a cut: of the page, else of the box. -/
def cutErr (a b : Int) (n : Nat) (X Y bw bh : Int) : Int := if pageErr a b n = 0 then (if InP X Y bw bh a b then 0 else 13) else pageErr a b n

theorem page_parts {a b : Int} {n : Nat} (h : pageErr a b n = 0) : sizeErr a b = 0 ∧ (n : Int) = a * b := by
  unfold pageErr at h
  by_cases h0 : sizeErr a b = 0
  · rw [if_pos h0] at h
    by_cases h1 : (n : Int) = a * b
    · exact ⟨h0, h1⟩
    · rw [if_neg h1] at h; simp at h
  · rw [if_neg h0] at h; exact absurd h h0

/-- The numbers of a right page. -/
theorem page_nat {a b : Int} {n : Nat} (h : pageErr a b n = 0) : ∃ W H : Nat, a = W ∧ b = H ∧ n = W * H ∧ 1 ≤ W ∧ W ≤ 4000 ∧ 1 ≤ H ∧ H ≤ 4000 ∧ n ≤ 1048576 ∧ sizeErr (W : Int) (H : Int) = 0 := by
  obtain ⟨he, hn⟩ := page_parts h
  obtain ⟨⟨a1, a2, a3, a4⟩, z0, z1⟩ := sizeErr_zero he
  obtain ⟨W, rfl⟩ := Int.eq_ofNat_of_zero_le (by omega : 0 ≤ a)
  obtain ⟨H, rfl⟩ := Int.eq_ofNat_of_zero_le (by omega : 0 ≤ b)
  refine ⟨W, H, rfl, rfl, ?_, by omega, by omega, by omega, by omega, by omega, he⟩
  have : (n : Int) = ((W * H : Nat) : Int) := by rw [hn, Int.natCast_mul]
  omega

theorem owns_pageB {w : World} {base : Nat} {v : Value} {N bw : Nat} {f : Nat → Nat → Bool} (h : w.ownsRow base 4 1 v N ((places bw f N).map Value.bool)) (hN : 1 ≤ N) :
    ∃ g c, v = .slice (some ⟨g, 0, none⟩) N c ∧ base ≤ g ∧ ∀ j, j < N → w.cell? ⟨g, 0 + j, none⟩ = some (.bool (f (j % bw) (j / bw))) := by
  rcases h.2 with ⟨_, h0⟩ | ⟨g, c, cur, rfl, hg, _⟩
  · omega
  · exact ⟨g, c, rfl, hg, fun j hj => by rw [Nat.zero_add, h.cellAt j (by omega)]; simp [places, List.getElem?_range hj]⟩

/-- What a cut is, in memory: nothing with an error; else the places of the box. -/
def CutIs (a b : Int) (n : Nat) (X Y bw bh : Int) (z : Nat → Bool) (B : Nat) (w : World) (i j : Int) (sl : Option Addr) (n' c' : Nat) : Prop :=
  (cutErr a b n X Y bw bh ≠ 0 ∧ i = 0 ∧ j = 0 ∧ sl = none ∧ n' = 0 ∧ c' = 0) ∨
  (cutErr a b n X Y bw bh = 0 ∧ i = bw ∧ j = bh ∧ n' = bw.toNat * bh.toNat ∧ ∃ g, B ≤ g ∧ sl = some ⟨g, 0, none⟩ ∧ ∀ k, k < n' → w.cell? ⟨g, 0 + k, none⟩ = some (.bool (z ((Y.toNat + k / bw.toNat) * a.toNat + X.toNat + k % bw.toNat))))

theorem CutIs.later {a b : Int} {n : Nat} {X Y bw bh : Int} {z : Nat → Bool} {B : Nat} {w w' : World} {i j : Int} {sl : Option Addr} {n' c' : Nat} (h : CutIs a b n X Y bw bh z B w i j sl n' c') (hb : Below w.heap.size w w') : CutIs a b n X Y bw bh z B w' i j sl n' c' := by
  rcases h with h | ⟨h1, h2, h3, h4, g, h5, h6, h7⟩
  · exact .inl h
  · exact .inr ⟨h1, h2, h3, h4, g, h5, h6, fun k hk => cell_later hb (h7 k hk)⟩
end Go.Proofs.Ytofcojcfcpfdmaa
namespace Go.Proofs.Ytofcojcfcpfdmaa
open Go.RowKit
set_option linter.unusedSimpArgs false
set_option linter.unusedVariables false

/-- The sum of the first n of f. -/
def sumN (f : Nat → Nat) : Nat → Nat
  | 0 => 0
  | n + 1 => sumN f n + f n

theorem sumN_le (f : Nat → Nat) (m : Nat) (h : ∀ j, f j ≤ m) : ∀ n, sumN f n ≤ n * m
  | 0 => by simp [sumN]
  | n + 1 => by
    have h1 := sumN_le f m h n
    have h2 := h n
    rw [sumN, Nat.add_mul]
    omega

theorem sumN_congr {f g : Nat → Nat} : ∀ {n : Nat}, (∀ j, j < n → f j = g j) → sumN f n = sumN g n
  | 0, _ => rfl
  | n + 1, h => by rw [sumN, sumN, sumN_congr fun j hj => h j (by omega), h n (by omega)]

theorem sumN_pos {f : Nat → Nat} : ∀ {n : Nat}, 0 < sumN f n → ∃ j, j < n ∧ 0 < f j
  | 0, h => by simp [sumN] at h
  | n + 1, h => by
    by_cases h1 : 0 < f n
    · exact ⟨n, by omega, h1⟩
    · rw [sumN] at h
      obtain ⟨j, hj, h2⟩ := sumN_pos (f := f) (n := n) (by omega)
      exact ⟨j, by omega, h2⟩

theorem sumN_ge {f : Nat → Nat} : ∀ {n j : Nat}, j < n → f j ≤ sumN f n
  | 0, _, h => by omega
  | n + 1, j, h => by
    rw [sumN]
    by_cases e : j = n
    · subst e; omega
    · have := sumN_ge (f := f) (n := n) (j := j) (by omega)
      omega

/-- The ink of one row of a box. -/
def ink1 (z : Nat → Bool) (W X y : Nat) (n : Nat) : Nat := sumN (fun i => (z (y * W + (X + i))).toNat) n
/-- The ink of a box. -/
def inkB (z : Nat → Bool) (W X Y p q : Nat) : Nat := sumN (fun j => ink1 z W X (Y + j) p) q

theorem toNat_le (b : Bool) : b.toNat ≤ 1 := by cases b <;> simp

theorem ink1_le (z : Nat → Bool) (W X y n : Nat) : ink1 z W X y n ≤ n := by
  have := sumN_le (fun i => (z (y * W + (X + i))).toNat) 1 (fun j => toNat_le _) n
  unfold ink1
  omega

theorem inkB_le (z : Nat → Bool) (W X Y p q : Nat) : inkB z W X Y p q ≤ q * p := sumN_le _ p (fun j => ink1_le _ _ _ _ _) q

theorem ink1_step (z : Nat → Bool) (W X y i : Nat) (h : X ≤ i) : ink1 z W X y (i + 1 - X) = ink1 z W X y (i - X) + (z (y * W + i)).toNat := by
  unfold ink1
  rw [show i + 1 - X = (i - X) + 1 by omega, sumN, show X + (i - X) = i by omega]

theorem inkB_step (z : Nat → Bool) (W X Y p k : Nat) (h : Y ≤ k) : inkB z W X Y p (k + 1 - Y) = inkB z W X Y p (k - Y) + ink1 z W X k p := by
  unfold inkB
  rw [show k + 1 - Y = (k - Y) + 1 by omega, sumN, show Y + (k - Y) = k by omega]

set_option maxHeartbeats 1000000 in
set_option maxRecDepth 100000 in
theorem inkOf_any (W H X Y p q g o c : Nat) (z : Nat → Bool) (w : World) (hW : W ≤ 4000) (hH : H ≤ 4000) (hx : X + p ≤ W) (hy : Y + q ≤ H)
    (hp : ∀ j, j < W * H → w.cell? ⟨g, o + j, none⟩ = some (.bool (z j))) :
    Calls Try.prog 127 #[.agg #[.int .i64 W, .int .i64 H, .slice (some ⟨g, o, none⟩) (W * H) c], .agg #[.int .i64 X, .int .i64 Y, .int .i64 p, .int .i64 q]] w fun e w' => e = .returned (.int .i64 ((inkB z W X Y p q : Nat) : Int)) ∧ Below w.heap.size w w' := by
  obtain ⟨w1, hw1⟩ : ∃ w1, w1 = (w.alloc (.cells #[.int .i64 W, .int .i64 H, .slice (some ⟨g, o, none⟩) (W * H) c] 40)).alloc (.cells #[.int .i64 X, .int .i64 Y, .int .i64 p, .int .i64 q] 65) := ⟨_, rfl⟩
  have B1 : Below w.heap.size w w1 := by rw [hw1]; exact below_alloc (new_below _ _) _
  have q0 : w1.cell? ⟨w.heap.size, 0, none⟩ = some (.int .i64 W) := by rw [hw1]; go_simp
  have q1 : w1.cell? ⟨w.heap.size, 1, none⟩ = some (.int .i64 H) := by rw [hw1]; go_simp
  have q2 : w1.cell? ⟨w.heap.size, 2, none⟩ = some (.slice (some ⟨g, o, none⟩) (W * H) c) := by rw [hw1]; go_simp
  have x0 : w1.cell? ⟨w.heap.size + 1, 0, none⟩ = some (.int .i64 X) := by rw [hw1]; go_simp
  have x1 : w1.cell? ⟨w.heap.size + 1, 1, none⟩ = some (.int .i64 Y) := by rw [hw1]; go_simp
  have x2 : w1.cell? ⟨w.heap.size + 1, 2, none⟩ = some (.int .i64 p) := by rw [hw1]; go_simp
  have x3 : w1.cell? ⟨w.heap.size + 1, 3, none⟩ = some (.int .i64 q) := by rw [hw1]; go_simp
  have HC := Lib.hid (fun j hj => cell_later B1 (hp j hj))
  have HB1 := Lib.hid B1
  clear hp B1
  go_enter Try.func127, Try.ntmps127
  go_upto_region 3 with fail
  rw [← hw1]
  clear hw1
  go_wp2_with fail
  go_loopw [5, 6] (fun n y wr => ∃ k N : Nat, Y ≤ k ∧ k ≤ Y + q ∧ y = .int .i64 k ∧ n = .int .i64 N ∧ N ≤ 16000000 ∧ Hid (N = inkB z W X Y p (k - Y)) ∧ Below w1.heap.size w1 wr) (fun _ y _ => Y + q - (intOf y).toNat)
  case atStart => exact ⟨Y, 0, Nat.le_refl _, by omega, rfl, rfl, by omega, Lib.hid (by simp [inkB, sumN]), Below.refl _ _⟩
  case round =>
    obtain ⟨k, N, hk1, hk2, rfl, rfl, hN1, HN, hb⟩ := hrel
    have c0 := cell_later hb q0
    have c1 := cell_later hb q1
    have c2 := cell_later hb q2
    have d0 := cell_later hb x0
    have d1 := cell_later hb x1
    have d2 := cell_later hb x2
    have d3 := cell_later hb x3
    by_cases hlt : k < Y + q
    · obtain ⟨wo, rfl⟩ : ∃ wo : World, wo = wr := ⟨_, rfl⟩
      have hNb := inkB_le z W X Y p (k - Y)
      have hNc := Nat.mul_le_mul (show k - Y ≤ 3999 by omega) (show p ≤ 4000 by omega)
      rw [← HN.out] at hNb
      have hN2 : N ≤ 15996000 := by omega
      have hd : decide ((k : Int) < (Y : Int) + (q : Int)) = true := by simp; omega
      clear hNb hNc
      go_wp2_with fail
      go_loopw [5, 7] (fun n x wr => ∃ i M : Nat, X ≤ i ∧ i ≤ X + p ∧ x = .int .i64 i ∧ n = .int .i64 M ∧ M ≤ N + (i - X) ∧ Hid (M = N + ink1 z W X k (i - X)) ∧ Below w1.heap.size w1 wr) (fun _ x _ => X + p - (intOf x).toNat)
      case atStart => exact ⟨X, N, Nat.le_refl _, by omega, rfl, rfl, by omega, Lib.hid (by simp [ink1, sumN]), hb⟩
      case round =>
        obtain ⟨i, M, hi1, hi2, rfl, rfl, hM1, HM, hbr⟩ := hrel
        clear c0 c1 c2 d0 d1 d2 d3
        have c0 := cell_later hbr q0
        have c1 := cell_later hbr q1
        have c2 := cell_later hbr q2
        have d0 := cell_later hbr x0
        have d1 := cell_later hbr x1
        have d2 := cell_later hbr x2
        have d3 := cell_later hbr x3
        have HBR := Lib.hid hbr
        clear hbr
        have l0 := World.block_lt_of_cell? _ _ c0
        have l1 := World.block_lt_of_cell? _ _ d0
        simp only at l0 l1
        by_cases hlti : i < X + p
        · have hfit := row_fits (show k < H by omega) (show i + 1 ≤ W by omega)
          obtain ⟨t, ht⟩ : ∃ t, t = z (k * W + i) := ⟨_, rfl⟩
          have HA := Lib.hid (at_in W H g o c i k t wr (by omega) (by omega) (by omega) (by omega) (by rw [ht]; exact cell_later HBR.out (HC.out _ (by omega))))
          have hst := Lib.hid (ink1_step z W X k i hi1)
          have HT := Lib.hid ht
          clear hfit ht
          cases t
          · go_wp2_with (go_at_call 86; refine HA.out.mono ?_; rintro e wq ⟨rfl, hbq⟩)
            go_roundw
            case rel =>
             exact ⟨i + 1, M, by omega, by omega, by go_num, rfl, by omega, Lib.hid (by rw [hst.out, ← HT.out, HM.out]; simp), HBR.out.trans (hbq.mono HBR.out.size)⟩
            case measure => simp [intOf]; omega
          · go_wp2_with (go_at_call 86; refine HA.out.mono ?_; rintro e wq ⟨rfl, hbq⟩)
            go_roundw
            case rel => exact ⟨i + 1, M + 1, by omega, by omega, by go_num, by go_num, by omega, Lib.hid (by rw [hst.out, ← HT.out, HM.out]; simp; omega), HBR.out.trans (hbq.mono HBR.out.size)⟩
            case measure => simp [intOf]; omega
        · have hst := Lib.hid (inkB_step z W X Y p k hk1)
          have hie := Lib.hid (show i - X = p by omega)
          go_wp2_with fail
          go_roundw
          case rel => exact ⟨k + 1, M, by omega, by omega, by go_num, rfl, by omega, Lib.hid (by rw [hst.out, ← HN.out, HM.out, hie.out]), HBR.out⟩
          case measure => simp [intOf]; omega
    · have hke := Lib.hid (show k - Y = q by omega)
      have HB := Lib.hid hb
      clear hb
      go_wp2_with fail
      go_ret
      exact ⟨ret_int (by rw [HN.out, hke.out]), below_step HB1.out HB.out⟩

end Go.Proofs.Ytofcojcfcpfdmaa

namespace Go.Proofs.Ytofcojcfcpfdmaa
open Go.RowKit
set_option linter.unusedSimpArgs false
set_option linter.unusedVariables false

end Go.Proofs.Ytofcojcfcpfdmaa
namespace Go.Proofs.Ytofcojcfcpfdmaa
set_option linter.unusedSimpArgs false
set_option linter.unusedVariables false

/-- The sum of n values from k on. -/
def rowSum (P : Nat → Int) (k : Nat) : Nat → Int
  | 0 => 0
  | n + 1 => rowSum P k n + P (k + n)

/-- The sum of a rectangle of a page that is W wide: from (x, y) on, nx wide and ny high. -/
def rectSum (P : Nat → Int) (W y x nx : Nat) : Nat → Int
  | 0 => 0
  | n + 1 => rectSum P W y x nx n + rowSum P ((y + n) * W + x) nx

end Go.Proofs.Ytofcojcfcpfdmaa
namespace Go.Proofs.Ytofcojcfcpfdmaa
open Go.RowKit
set_option linter.unusedSimpArgs false
set_option linter.unusedVariables false

/-- A list of numbers, as values. -/
def numsOf (f : Nat → Nat) (n : Nat) : List Value := (List.range n).map fun k => Value.int .i64 ((f k : Nat) : Int)
theorem numsOf_succ (f : Nat → Nat) (n : Nat) : numsOf f (n + 1) = numsOf f n ++ [.int .i64 ((f n : Nat) : Int)] := by simp [numsOf, List.range_succ]
theorem numsOf_get (f : Nat → Nat) (n k : Nat) (h : k < n) : (numsOf f n)[k]? = some (.int .i64 ((f k : Nat) : Int)) := by simp [numsOf, List.getElem?_range h]

set_option maxHeartbeats 1000000 in
set_option maxRecDepth 100000 in
theorem rowsOf_any (W H g o c : Nat) (z : Nat → Bool) (w : World) (hW : 1 ≤ W ∧ W ≤ 4000) (hH : 1 ≤ H ∧ H ≤ 4000)
    (hp : ∀ j, j < W * H → w.cell? ⟨g, o + j, none⟩ = some (.bool (z j))) :
    Calls Try.prog 101 #[.agg #[.int .i64 W, .int .i64 H, .slice (some ⟨g, o, none⟩) (W * H) c]] w fun e w' => ∃ v, e = .returned v ∧ w'.ownsRow w.heap.size 3 1 v H (numsOf (fun y => inkB z W 0 y W 1) H) ∧ Below w.heap.size w w' := by
  obtain ⟨i0, hi, hz0, hz1, hz2⟩ := info_parts info_int
  obtain ⟨w1, hw1⟩ : ∃ w1, w1 = w.alloc (.cells #[.int .i64 W, .int .i64 H, .slice (some ⟨g, o, none⟩) (W * H) c] 40) := ⟨_, rfl⟩
  have B1 : Below w.heap.size w w1 := by rw [hw1]; exact new_below _ _
  have q0 : w1.cell? ⟨w.heap.size, 0, none⟩ = some (.int .i64 W) := by rw [hw1]; go_simp
  have q1 : w1.cell? ⟨w.heap.size, 1, none⟩ = some (.int .i64 H) := by rw [hw1]; go_simp
  have q2 : w1.cell? ⟨w.heap.size, 2, none⟩ = some (.slice (some ⟨g, o, none⟩) (W * H) c) := by rw [hw1]; go_simp
  have HC := Lib.hid (fun j hj => cell_later B1 (hp j hj))
  have HB1 := Lib.hid B1
  have hsz : w.heap.size ≤ w1.heap.size := B1.size
  clear hp B1
  go_enter Try.func101, Try.ntmps101
  go_upto_region 3 with fail
  rw [← hw1]
  clear hw1
  go_wp2_with fail
  go_loopw [3, 7] (fun v i wr => ∃ y : Nat, y ≤ H ∧ i = .int .i64 y ∧ wr.ownsRow w1.heap.size 3 1 v y (numsOf (fun y => inkB z W 0 y W 1) y) ∧ Below w1.heap.size w1 wr) (fun _ i _ => H - (intOf i).toNat)
  case atStart => exact ⟨0, Nat.zero_le _, rfl, by simpa [numsOf] using World.ownsRow_nil _ _ _ _, Below.refl _ _⟩
  case round =>
    obtain ⟨y, hy, rfl, hown, hb⟩ := hrel
    have c0 := cell_later hb q0
    have c1 := cell_later hb q1
    have c2 := cell_later hb q2
    have HO := Lib.hid hown
    have HB := Lib.hid hb
    clear hown hb
    by_cases hlt : y < H
    · have HI := Lib.hid (inkOf_any W H 0 y W 1 g o c z wr hW.2 hH.2 (by omega) (by omega) (fun j hj => cell_later HB.out (HC.out j hj)))
      obtain ⟨K, hK⟩ : ∃ K, K = inkB z W 0 y W 1 := ⟨_, rfl⟩
      rw [← hK] at HI
      have HK := Lib.hid hK
      clear hK
      go_wp2_with (first | (go_at_call 127; refine HI.out.mono ?_; rintro e wq ⟨rfl, hbq⟩) | (at_builtin; refine wpList_append_own _ rfl _ _ 52 rfl w1.heap.size 3 i0 (.int .i64 0) 1 8 Try.underlying52 hi hz0 hz1 hz2 rfl (by decide) _ _ _ rfl ((below_owns HO.out hbq).alloc _) ⟨wq.heap.size, 0, none⟩ 1 1 [.int .i64 (K : Int)] rfl rfl ?c1 ?c2 ?c3 ?c4 ?c5 ?_))
      case c1 => exact cell_one_new _ _ _
      case c2 => intro u hu; simp at hu; subst hu; rfl
      case c3 => unfold maxLen; omega
      case c4 => omega
      case c5 => have h1 := HB.out.size; have h2 := hbq.size; simp; omega
      · intro v' w5 hown5 hgr5 _
        have hB2 := HB.out.trans (hbq.mono HB.out.size)
        have hb5 : Below w1.heap.size w1 w5 := (hB2.alloc hB2.size _).grown hgr5 (by have h1 := hB2.size; simp; omega) (fun k hk => (HO.out.lt k hk).1)
        have H5 := Lib.hid hown5
        have B5 := Lib.hid hb5
        clear hgr5 hown5 hb5 hB2 hbq
        go_wp2_with fail
        go_roundw
        case rel => exact ⟨y + 1, by omega, by go_num, by rw [numsOf_succ, ← HK.out]; exact H5.out, B5.out⟩
        case measure => simp [intOf]; omega
    · obtain rfl : y = H := by omega
      go_wp2_with fail
      go_ret
      exact ⟨_, rfl, owns_base HO.out hsz, below_step HB1.out HB.out⟩

set_option maxHeartbeats 1000000 in
set_option maxRecDepth 100000 in
theorem columnsOf_any (W H g o c : Nat) (z : Nat → Bool) (w : World) (hW : 1 ≤ W ∧ W ≤ 4000) (hH : 1 ≤ H ∧ H ≤ 4000)
    (hp : ∀ j, j < W * H → w.cell? ⟨g, o + j, none⟩ = some (.bool (z j))) :
    Calls Try.prog 100 #[.agg #[.int .i64 W, .int .i64 H, .slice (some ⟨g, o, none⟩) (W * H) c]] w fun e w' => ∃ v, e = .returned v ∧ w'.ownsRow w.heap.size 3 1 v W (numsOf (fun x => inkB z W x 0 1 H) W) ∧ Below w.heap.size w w' := by
  obtain ⟨i0, hi, hz0, hz1, hz2⟩ := info_parts info_int
  obtain ⟨w1, hw1⟩ : ∃ w1, w1 = w.alloc (.cells #[.int .i64 W, .int .i64 H, .slice (some ⟨g, o, none⟩) (W * H) c] 40) := ⟨_, rfl⟩
  have B1 : Below w.heap.size w w1 := by rw [hw1]; exact new_below _ _
  have q0 : w1.cell? ⟨w.heap.size, 0, none⟩ = some (.int .i64 W) := by rw [hw1]; go_simp
  have q1 : w1.cell? ⟨w.heap.size, 1, none⟩ = some (.int .i64 H) := by rw [hw1]; go_simp
  have q2 : w1.cell? ⟨w.heap.size, 2, none⟩ = some (.slice (some ⟨g, o, none⟩) (W * H) c) := by rw [hw1]; go_simp
  have HC := Lib.hid (fun j hj => cell_later B1 (hp j hj))
  have HB1 := Lib.hid B1
  have hsz : w.heap.size ≤ w1.heap.size := B1.size
  clear hp B1
  go_enter Try.func100, Try.ntmps100
  go_upto_region 3 with fail
  rw [← hw1]
  clear hw1
  go_wp2_with fail
  go_loopw [3, 7] (fun v i wr => ∃ y : Nat, y ≤ W ∧ i = .int .i64 y ∧ wr.ownsRow w1.heap.size 3 1 v y (numsOf (fun x => inkB z W x 0 1 H) y) ∧ Below w1.heap.size w1 wr) (fun _ i _ => W - (intOf i).toNat)
  case atStart => exact ⟨0, Nat.zero_le _, rfl, by simpa [numsOf] using World.ownsRow_nil _ _ _ _, Below.refl _ _⟩
  case round =>
    obtain ⟨y, hy, rfl, hown, hb⟩ := hrel
    have c0 := cell_later hb q0
    have c1 := cell_later hb q1
    have c2 := cell_later hb q2
    have HO := Lib.hid hown
    have HB := Lib.hid hb
    clear hown hb
    by_cases hlt : y < W
    · have HI := Lib.hid (inkOf_any W H y 0 1 H g o c z wr hW.2 hH.2 (by omega) (by omega) (fun j hj => cell_later HB.out (HC.out j hj)))
      obtain ⟨K, hK⟩ : ∃ K, K = inkB z W y 0 1 H := ⟨_, rfl⟩
      rw [← hK] at HI
      have HK := Lib.hid hK
      clear hK
      go_wp2_with (first | (go_at_call 127; refine HI.out.mono ?_; rintro e wq ⟨rfl, hbq⟩) | (at_builtin; refine wpList_append_own _ rfl _ _ 52 rfl w1.heap.size 3 i0 (.int .i64 0) 1 8 Try.underlying52 hi hz0 hz1 hz2 rfl (by decide) _ _ _ rfl ((below_owns HO.out hbq).alloc _) ⟨wq.heap.size, 0, none⟩ 1 1 [.int .i64 (K : Int)] rfl rfl ?c1 ?c2 ?c3 ?c4 ?c5 ?_))
      case c1 => exact cell_one_new _ _ _
      case c2 => intro u hu; simp at hu; subst hu; rfl
      case c3 => unfold maxLen; omega
      case c4 => omega
      case c5 => have h1 := HB.out.size; have h2 := hbq.size; simp; omega
      · intro v' w5 hown5 hgr5 _
        have hB2 := HB.out.trans (hbq.mono HB.out.size)
        have hb5 : Below w1.heap.size w1 w5 := (hB2.alloc hB2.size _).grown hgr5 (by have h1 := hB2.size; simp; omega) (fun k hk => (HO.out.lt k hk).1)
        have H5 := Lib.hid hown5
        have B5 := Lib.hid hb5
        clear hgr5 hown5 hb5 hB2 hbq
        go_wp2_with fail
        go_roundw
        case rel => exact ⟨y + 1, by omega, by go_num, by rw [numsOf_succ, ← HK.out]; exact H5.out, B5.out⟩
        case measure => simp [intOf]; omega
    · obtain rfl : y = W := by omega
      go_wp2_with fail
      go_ret
      exact ⟨_, rfl, owns_base HO.out hsz, below_step HB1.out HB.out⟩

end Go.Proofs.Ytofcojcfcpfdmaa

namespace Go.Proofs.Ytofcojcfcpfdmaa
open Go.RowKit
set_option linter.unusedSimpArgs false
set_option linter.unusedVariables false

set_option maxHeartbeats 1000000 in
set_option maxRecDepth 100000 in
theorem eachInk_any (W H g o c clo : Nat) (capt : Array Value) (z : Nat → Bool) (I : Nat → Nat → World → Prop) (K : Nat → Prop) (W0 : World) (hW : 1 ≤ W ∧ W ≤ 4000) (hH : 1 ≤ H ∧ H ≤ 4000)
    (eg : ∀ (args : Array Value) (W : World), (callFunc clo args).run Try.prog W = .ok (.enter clo args) W)
    (hp : ∀ j, j < W * H → W0.cell? ⟨g, o + j, none⟩ = some (.bool (z j))) (hK : K g) (hK0 : K W0.heap.size)
    (hI0 : I 0 0 (W0.alloc (.cells #[.int .i64 W, .int .i64 H, .slice (some ⟨g, o, none⟩) (W * H) c] 40)))
    (hrow : ∀ y wx, y < H → I y W wx → I (y + 1) 0 wx)
    (hno : ∀ y x wx, x < W → y < H → z (y * W + x) = false → I y x wx → I y (x + 1) wx)
    (hyes : ∀ y x wx, x < W → y < H → z (y * W + x) = true → I y x wx → Calls Try.prog clo (#[.int .i64 x, .int .i64 y] ++ capt) wx fun e w' => e = .returned (.tuple #[]) ∧ I y (x + 1) w' ∧ ∀ b, K b → w'.heap[b]? = wx.heap[b]?) :
    Calls Try.prog 125 #[.agg #[.int .i64 W, .int .i64 H, .slice (some ⟨g, o, none⟩) (W * H) c], .func (.func clo) #[] capt] W0 fun e w' => e = .returned (.tuple #[]) ∧ I H 0 w' := by
  obtain ⟨w1, hw1⟩ : ∃ w1, w1 = W0.alloc (.cells #[.int .i64 W, .int .i64 H, .slice (some ⟨g, o, none⟩) (W * H) c] 40) := ⟨_, rfl⟩
  have B1 : Below W0.heap.size W0 w1 := by rw [hw1]; exact new_below _ _
  have q0 : w1.cell? ⟨W0.heap.size, 0, none⟩ = some (.int .i64 W) := by rw [hw1]; go_simp
  have q1 : w1.cell? ⟨W0.heap.size, 1, none⟩ = some (.int .i64 H) := by rw [hw1]; go_simp
  have q2 : w1.cell? ⟨W0.heap.size, 2, none⟩ = some (.slice (some ⟨g, o, none⟩) (W * H) c) := by rw [hw1]; go_simp
  have HC := Lib.hid (fun j hj => cell_later B1 (hp j hj))
  have hN : W * H ≤ 16000000 := Nat.mul_le_mul hW.2 hH.2
  rw [← hw1] at hI0
  have HR := Lib.hid hrow
  have HNo := Lib.hid hno
  have HY := Lib.hid hyes
  have HK := Lib.hid hK
  have HK0 := Lib.hid hK0
  clear hp B1 hrow hno hyes hK hK0
  go_enter Try.func125, Try.ntmps125
  go_upto_region 1 with fail
  rw [← hw1]
  clear hw1
  go_wp2_with fail
  go_loopw [8] (fun i wr => ∃ y : Nat, y ≤ H ∧ i = .int .i64 y ∧ I y 0 wr ∧ ∀ b, K b → wr.heap[b]? = w1.heap[b]?) (fun i _ => H - (intOf i).toNat)
  case atStart => exact ⟨0, Nat.zero_le _, rfl, hI0, fun _ _ => rfl⟩
  case round =>
    obtain ⟨y, hy, rfl, hI, hk⟩ := hrel
    have d0 := (World.cell?_of_block (a := ⟨W0.heap.size, 0, none⟩) (hk _ HK0.out)).trans q0
    have d1 := (World.cell?_of_block (a := ⟨W0.heap.size, 1, none⟩) (hk _ HK0.out)).trans q1
    have HKk := Lib.hid hk
    clear hk
    by_cases hlt : y < H
    · obtain ⟨wo, rfl⟩ : ∃ wo : World, wo = wr := ⟨_, rfl⟩
      go_wp2_with fail
      go_loopw [13] (fun i wr => ∃ x : Nat, x ≤ W ∧ i = .int .i64 x ∧ I y x wr ∧ ∀ b, K b → wr.heap[b]? = w1.heap[b]?) (fun i _ => W - (intOf i).toNat)
      case atStart => exact ⟨0, Nat.zero_le _, rfl, hI, HKk.out⟩
      case round =>
        obtain ⟨x, hx, rfl, hIx, hk⟩ := hrel
        clear d0 d1
        have d0 := (World.cell?_of_block (a := ⟨W0.heap.size, 0, none⟩) (hk _ HK0.out)).trans q0
        have d1 := (World.cell?_of_block (a := ⟨W0.heap.size, 1, none⟩) (hk _ HK0.out)).trans q1
        have d2 := (World.cell?_of_block (a := ⟨W0.heap.size, 2, none⟩) (hk _ HK0.out)).trans q2
        have HKx := Lib.hid hk
        clear hk
        by_cases hltx : x < W
        · have hfit := row_fits hlt (show x + 1 ≤ W by omega)
          have hpx := (World.cell?_of_block (a := ⟨g, o + (y * W + x), none⟩) (HKx.out _ HK.out)).trans (HC.out _ (by omega))
          have v0 : (0 : Int) ≤ (y : Int) * (W : Int) := Int.mul_nonneg (by omega) (by omega)
          have v1 : (y : Int) * (W : Int) + (x : Int) < (W : Int) * (H : Int) := by rw [← Int.natCast_mul, ← Int.natCast_mul]; omega
          have v2 : (y : Int) * (W : Int) + (x : Int) < ((W * H : Nat) : Int) := by rw [← Int.natCast_mul]; omega
          have v3 : (W : Int) * (H : Int) ≤ 16000000 := by rw [← Int.natCast_mul]; omega
          obtain ⟨t, ht⟩ : ∃ t, t = z (y * W + x) := ⟨_, rfl⟩
          rw [← ht] at hpx
          have HT := Lib.hid ht
          clear hfit ht
          cases t
          · go_wp2_with fail
            go_roundw
            case rel => exact ⟨x + 1, by omega, by go_num, HNo.out y x _ hltx hlt HT.out.symm hIx, HKx.out⟩
            case measure => simp [intOf]; omega
          · go_wp2_with (go_at_fn clo; refine (HY.out y x _ hltx hlt HT.out.symm hIx).mono ?_; rintro e w' ⟨rfl, hI', hk'⟩)
            go_roundw
            case rel => exact ⟨x + 1, by omega, by go_num, hI', fun b hb => (hk' b hb).trans (HKx.out b hb)⟩
            case measure => simp [intOf]; omega
        · obtain rfl : x = W := by omega
          go_wp2_with fail
          go_roundw
          case rel => exact ⟨y + 1, by omega, by go_num, HR.out y _ hlt hIx, HKx.out⟩
          case measure => simp [intOf]; omega
    · have hye := Lib.hid (show y = H by omega)
      go_wp2_with fail
      go_end0
      exact ⟨rfl, by have h := hI; rw [hye.out] at h; exact h⟩

end Go.Proofs.Ytofcojcfcpfdmaa

namespace Go.Proofs.Ytofcojcfcpfdmaa
open Go.RowKit
set_option linter.unusedSimpArgs false
set_option linter.unusedVariables false

theorem numsOf_congr {f g : Nat → Nat} {n : Nat} (h : ∀ j, j < n → f j = g j) : numsOf f n = numsOf g n := by
  unfold numsOf
  refine List.map_congr_left fun k hk => ?_
  rw [h k (by simpa using hk)]
theorem numsOf_set {f g : Nat → Nat} {n j v : Nat} (hj : j < n) (hv : g j = v) (h : ∀ i, i < n → i ≠ j → g i = f i) : (numsOf f n).set j (.int .i64 ((v : Nat) : Int)) = numsOf g n := by
  refine List.ext_getElem? fun k => ?_
  rw [List.getElem?_set]
  by_cases hk : k < n
  · rw [numsOf_get g n k hk]
    by_cases e : j = k
    · subst e; simp [numsOf, hv, hj]
    · rw [if_neg e, numsOf_get f n k hk, h k hk fun e' => e e'.symm]
  · have h1 : (numsOf g n)[k]? = none := by simp [numsOf]; omega
    have h2 : (numsOf f n)[k]? = none := by simp [numsOf]; omega
    rw [h1]
    by_cases e : j = k
    · omega
    · rw [if_neg e, h2]
theorem numsOf_length (f : Nat → Nat) (n : Nat) : (numsOf f n).length = n := by simp [numsOf]

/-- The counts of the rows while the pixel (x, y) is the next one. -/
def rowsAt (z : Nat → Bool) (W y x j : Nat) : Nat := if j < y then ink1 z W 0 j W else if j = y then ink1 z W 0 y x else 0
/-- The ink of the first y places of a column. -/
def colN (z : Nat → Bool) (W i y : Nat) : Nat := sumN (fun k => (z (k * W + i)).toNat) y
def colsAt (z : Nat → Bool) (W y x i : Nat) : Nat := if i < x then colN z W i (y + 1) else colN z W i y

theorem rowsAt_row (z : Nat → Bool) (W y j : Nat) : rowsAt z W y W j = rowsAt z W (y + 1) 0 j := by
  unfold rowsAt
  by_cases h : j < y
  · rw [if_pos h, if_pos (by omega)]
  · rw [if_neg h]
    by_cases e : j = y
    · rw [if_pos e, if_pos (by omega), e]
    · rw [if_neg e, if_neg (by omega)]
      split <;> simp [ink1, sumN]
theorem ink1_succ (z : Nat → Bool) (W y x : Nat) : ink1 z W 0 y (x + 1) = ink1 z W 0 y x + (z (y * W + x)).toNat := by simp [ink1, sumN]
theorem rowsAt_no (z : Nat → Bool) (W y x j : Nat) (h : z (y * W + x) = false) : rowsAt z W y x j = rowsAt z W y (x + 1) j := by
  unfold rowsAt
  rw [ink1_succ, h]
  simp
theorem rowsAt_end (z : Nat → Bool) (W H j : Nat) (h : j < H) : rowsAt z W H 0 j = inkB z W 0 j W 1 := by
  unfold rowsAt inkB
  rw [if_pos h]
  simp [sumN]
theorem colsAt_row (z : Nat → Bool) (W y i : Nat) (h : i < W) : colsAt z W y W i = colsAt z W (y + 1) 0 i := by
  unfold colsAt
  rw [if_pos h, if_neg (by omega)]
theorem colsAt_no (z : Nat → Bool) (W y x i : Nat) (h : z (y * W + x) = false) : colsAt z W y x i = colsAt z W y (x + 1) i := by
  unfold colsAt
  by_cases h1 : i < x
  · rw [if_pos h1, if_pos (by omega)]
  · rw [if_neg h1]
    by_cases h2 : i = x
    · rw [if_pos (by omega), colN, colN, sumN, h2, h]; rfl
    · rw [if_neg (by omega)]
theorem colsAt_end (z : Nat → Bool) (W H i : Nat) : colsAt z W H 0 i = inkB z W i 0 1 H := by
  unfold colsAt inkB colN
  rw [if_neg (by omega)]
  exact sumN_congr fun j _ => by simp [ink1, sumN]

set_option maxRecDepth 100000 in
theorem rows1_any (x y cb ab n k : Nat) (w : World) (hy : y < n) (hn : n ≤ 100000) (hk : k ≤ 1000000000) (c0 : w.cell? ⟨cb, 0, none⟩ = some (.slice (some ⟨ab, 0, none⟩) n n)) (c1 : w.cell? ⟨ab, y, none⟩ = some (.int .i64 (k : Int))) (f1 : w.frozen? ⟨ab, y, none⟩ = false) :
    Calls Try.prog 150 #[.int .i64 x, .int .i64 y, .pointer (some ⟨cb, 0, none⟩)] w fun e w' => e = .returned (.tuple #[]) ∧ w.setCell ⟨ab, y, none⟩ (.int .i64 ((k + 1 : Nat) : Int)) = w' := by
  have h0 : (y : Int) < (n : Int) := by omega
  have h1 : (0 : Int) ≤ (y : Int) := by omega
  go_enter Try.func150, Try.ntmps150
  go_wp2_with fail
  go_end0
  exact ⟨rfl, rfl⟩

set_option maxRecDepth 100000 in
theorem columns1_any (x y cb ab n k : Nat) (w : World) (hy : x < n) (hn : n ≤ 100000) (hk : k ≤ 1000000000) (c0 : w.cell? ⟨cb, 0, none⟩ = some (.slice (some ⟨ab, 0, none⟩) n n)) (c1 : w.cell? ⟨ab, x, none⟩ = some (.int .i64 (k : Int))) (f1 : w.frozen? ⟨ab, x, none⟩ = false) :
    Calls Try.prog 151 #[.int .i64 x, .int .i64 y, .pointer (some ⟨cb, 0, none⟩)] w fun e w' => e = .returned (.tuple #[]) ∧ w.setCell ⟨ab, x, none⟩ (.int .i64 ((k + 1 : Nat) : Int)) = w' := by
  have h0 : (x : Int) < (n : Int) := by omega
  have h1 : (0 : Int) ≤ (x : Int) := by omega
  go_enter Try.func151, Try.ntmps151
  go_wp2_with fail
  go_end0
  exact ⟨rfl, rfl⟩

/-- What holds between two pixels: the counts, in the row ab; what lies below is as it was; the box of the counts. -/
def CountRel (ab cb : Nat) (f : Nat → Nat) (n : Nat) (w2 wx : World) : Prop :=
  wx.ownsRow ab 3 1 (.slice (some ⟨ab, 0, none⟩) n n) n (numsOf f n) ∧ Below ab w2 wx ∧ wx.cell? ⟨cb, 0, none⟩ = some (.slice (some ⟨ab, 0, none⟩) n n)

theorem CountRel.get {ab cb n j : Nat} {f : Nat → Nat} {w2 wx : World} (h : CountRel ab cb f n w2 wx) (hj : j < n) : wx.cell? ⟨ab, j, none⟩ = some (.int .i64 ((f j : Nat) : Int)) := by
  rw [h.1.cellAt j (by omega), numsOf_get f n j hj]
theorem CountRel.store {ab cb n j : Nat} {f g : Nat → Nat} {w2 wx : World} (h : CountRel ab cb f n w2 wx) (hc : cb ≠ ab) (hj : j < n) (hg : g j = f j + 1) (ho : ∀ i, i < n → i ≠ j → g i = f i) : CountRel ab cb g n w2 (wx.setCell ⟨ab, j, none⟩ (.int .i64 ((f j + 1 : Nat) : Int))) := by
  refine ⟨?_, h.2.1.setCell (Nat.le_refl _) _, ?_⟩
  · have := (h.1.stored j (.int .i64 ((f j + 1 : Nat) : Int))).1
    rw [numsOf_set hj hg ho] at this
    exact this
  · rw [World.cell?_of_block (Below.heap_setCell _ _ _ _ (by simpa using hc))]
    exact h.2.2
theorem CountRel.same {ab cb n : Nat} {f g : Nat → Nat} {w2 wx : World} (h : CountRel ab cb f n w2 wx) (he : ∀ i, i < n → f i = g i) : CountRel ab cb g n w2 wx :=
  ⟨by rw [← numsOf_congr he]; exact h.1, h.2⟩

theorem numsOf_zero (n : Nat) : List.replicate n (Value.int .i64 0) = numsOf (fun _ => 0) n := by
  refine List.ext_getElem? fun k => ?_
  by_cases hk : k < n
  · rw [numsOf_get _ _ _ hk, List.getElem?_replicate, if_pos hk]; rfl
  · rw [List.getElem?_replicate, if_neg hk]; symm; exact List.getElem?_eq_none (by rw [numsOf_length]; omega)

set_option maxHeartbeats 1000000 in
set_option maxRecDepth 100000 in
theorem rows_ok (W H g o c : Nat) (z : Nat → Bool) (w : World) (hs : sizeErr W H = 0)
    (hp : ∀ j, j < W * H → w.cell? ⟨g, o + j, none⟩ = some (.bool (z j))) :
    Calls Try.prog 121 #[.agg #[.int .i64 W, .int .i64 H, .slice (some ⟨g, o, none⟩) (W * H) c]] w fun e w' =>
      ∃ v, e = .returned (.tuple #[v, .int .i64 0]) ∧ w'.ownsRow w.heap.size 3 1 v H (numsOf (fun y => inkB z W 0 y W 1) H) ∧ Below w.heap.size w w' := by
  obtain ⟨i0, hi, hz0, hz1, hz2⟩ := info_parts info_int
  have hmf : ∀ (fn : Fn) (first cap : Array Value) (w : World), (Instr.makeFunc fn first cap).run Try.prog w = .ok (.func fn first cap) w := fun _ _ _ _ => rfl
  obtain ⟨⟨a1, a2, a3, a4⟩, z0, z1⟩ := sizeErr_zero hs
  have hpe : pageErr W H (W * H) = 0 := by unfold pageErr; rw [if_pos hs, if_pos (by simp [Int.natCast_mul])]
  have hgw : g < w.heap.size := by
    have := World.block_lt_of_cell? _ _ (hp 0 (Nat.mul_pos (by omega) (by omega)))
    simpa using this
  have HC := Lib.hid hp
  clear hp hs z0 z1
  go_enter Try.func121, Try.ntmps121
  go_wp2_with (first | (go_at_call 25; refine (checkBits_any _ _ _ _ _ _).mono ?_; rintro e w' ⟨rfl, rfl⟩) | (at_make; refine wpList_make_full _ rfl _ _ 52 rfl (w.heap.size + 2) 3 i0 (.int .i64 0) 1 Try.underlying52 hi hz0 hz1 _ _ _ _ H rfl rfl rfl rfl (by rw [hz2]; omega) (by unfold maxLen; omega) (by simp) ?_))
  intro w1 hown1 hgrow1
  rw [toList_madeCells_one, numsOf_zero] at hown1
  have hb1 := (Below.refl (w.heap.size + 2) _).grown hgrow1 (by simp) (by simp)
  have B1 := (below_alloc (new_below w (.cells #[.int .i64 W, .int .i64 H, .slice (some ⟨g, o, none⟩) (W * H) c] 40)) (.cells #[.int .i64 W, .int .i64 H, .slice (some ⟨g, o, none⟩) (W * H) c] 40)).trans (hb1.mono (show w.heap.size ≤ w.heap.size + 2 by omega))
  have k0 : w1.cell? ⟨w.heap.size, 0, none⟩ = some (.int .i64 W) := (hb1.cell (p := ⟨w.heap.size, 0, none⟩) (by simp)).trans (by go_simp)
  have k1 : w1.cell? ⟨w.heap.size, 1, none⟩ = some (.int .i64 H) := (hb1.cell (p := ⟨w.heap.size, 1, none⟩) (by simp)).trans (by go_simp)
  have k2 : w1.cell? ⟨w.heap.size, 2, none⟩ = some (.slice (some ⟨g, o, none⟩) (W * H) c) := (hb1.cell (p := ⟨w.heap.size, 2, none⟩) (by simp)).trans (by go_simp)
  have hlt2 : w.heap.size + 2 < w1.heap.size := (hown1.lt (w.heap.size + 2) rfl).2
  obtain ⟨w2, hw2⟩ : ∃ w2, w2 = w1.alloc (.cells #[.slice (some ⟨w.heap.size + 2, 0, none⟩) H H] 52) := ⟨_, rfl⟩
  have B2 : Below w1.heap.size w1 w2 := by rw [hw2]; exact new_below _ _
  have x0 : w2.cell? ⟨w1.heap.size, 0, none⟩ = some (.slice (some ⟨w.heap.size + 2, 0, none⟩) H H) := by rw [hw2]; go_simp
  have hs2 : w2.heap.size = w1.heap.size + 1 := by rw [hw2]; simp
  have O2 := below_owns hown1 B2
  have HO2 := Lib.hid O2
  have HB12 := Lib.hid (below_step B1 B2)
  have j0 := cell_later B2 k0
  have j1 := cell_later B2 k1
  have j2 := cell_later B2 k2
  have HX := Lib.hid x0
  have HJ := Lib.hid (And.intro j0 (And.intro j1 j2))
  have l0 : w.heap.size < w1.heap.size := by omega
  clear hgrow1 hb1 hown1 O2 B1 B2 x0 j0 j1 j2
  go_wp2_with fail
  rw [← hw2]
  clear hw2 k0 k1 k2
  refine (eachInk_any W H g o c 150 #[.pointer (some ⟨w1.heap.size, 0, none⟩)] z (fun y x wx => CountRel (w.heap.size + 2) w1.heap.size (rowsAt z W y x) H w2 wx) (fun b => b ≠ w.heap.size + 2) w2 ⟨by omega, by omega⟩ ⟨by omega, by omega⟩ (Go.Proofs.enters_of Try.func150 (by kernel_rfl) rfl) (fun j hj => cell_later HB12.out (HC.out j hj)) (by omega) (by omega) ?_ ?_ ?_ ?_).mono ?_
  · refine ⟨?_, (Below.refl _ _).alloc (by omega) _, cell_later (new_below _ _) HX.out⟩
    have := below_owns HO2.out (new_below w2 (.cells #[.int .i64 W, .int .i64 H, .slice (some ⟨g, o, none⟩) (W * H) c] 40))
    rw [numsOf_congr (f := fun _ => 0) (g := rowsAt z W 0 0) (fun j _ => by unfold rowsAt; rw [if_neg (by omega)]; split <;> simp [ink1, sumN])] at this
    exact this
  · exact fun y wx hy h => h.same fun i _ => rowsAt_row z W y i
  · exact fun y x wx hx hy hz h => h.same fun i _ => rowsAt_no z W y x i hz
  · intro y x wx hx hy hz h
    have hb9 : rowsAt z W y x y ≤ 1000000000 := by
      unfold rowsAt
      rw [if_neg (by omega), if_pos rfl]
      have := ink1_le z W 0 y x
      omega
    refine (rows1_any x y w1.heap.size (w.heap.size + 2) H _ wx hy (by omega) hb9 h.2.2 (h.get hy) (h.1.frozenAt y)).mono ?_
    rintro e w' ⟨rfl, rfl⟩
    refine ⟨rfl, h.store (by omega) hy ?_ ?_, fun b hb => Below.heap_setCell _ _ _ _ hb⟩
    · unfold rowsAt
      rw [if_neg (by omega), if_pos rfl, if_neg (by omega), if_pos rfl, ink1_succ, hz]; rfl
    · intro i hi hne
      unfold rowsAt
      by_cases e : i < y
      · rw [if_pos e, if_pos e]
      · rw [if_neg e, if_neg e, if_neg hne, if_neg hne]
  · rintro e w5 ⟨rfl, h5⟩
    have hc5 := h5.2.2
    have HO5 := Lib.hid (h5.same (g := fun y => inkB z W 0 y W 1) fun i hi => rowsAt_end z W H i hi)
    clear h5
    go_wp2_with fail
    go_ret2
    exact ⟨_, rfl, owns_base HO5.out.1 (by omega), HB12.out.trans (HO5.out.2.1.mono (by omega))⟩

end Go.Proofs.Ytofcojcfcpfdmaa

namespace Go.Proofs.Ytofcojcfcpfdmaa
open Go.RowKit
set_option linter.unusedSimpArgs false
set_option linter.unusedVariables false

set_option maxHeartbeats 1000000 in
set_option maxRecDepth 100000 in
theorem columns_ok (W H g o c : Nat) (z : Nat → Bool) (w : World) (hs : sizeErr W H = 0)
    (hp : ∀ j, j < W * H → w.cell? ⟨g, o + j, none⟩ = some (.bool (z j))) :
    Calls Try.prog 122 #[.agg #[.int .i64 W, .int .i64 H, .slice (some ⟨g, o, none⟩) (W * H) c]] w fun e w' =>
      ∃ v, e = .returned (.tuple #[v, .int .i64 0]) ∧ w'.ownsRow w.heap.size 3 1 v W (numsOf (fun x => inkB z W x 0 1 H) W) ∧ Below w.heap.size w w' := by
  obtain ⟨i0, hi, hz0, hz1, hz2⟩ := info_parts info_int
  have hmf : ∀ (fn : Fn) (first cap : Array Value) (w : World), (Instr.makeFunc fn first cap).run Try.prog w = .ok (.func fn first cap) w := fun _ _ _ _ => rfl
  obtain ⟨⟨a1, a2, a3, a4⟩, z0, z1⟩ := sizeErr_zero hs
  have hpe : pageErr W H (W * H) = 0 := by unfold pageErr; rw [if_pos hs, if_pos (by simp [Int.natCast_mul])]
  have hgw : g < w.heap.size := by
    have := World.block_lt_of_cell? _ _ (hp 0 (Nat.mul_pos (by omega) (by omega)))
    simpa using this
  have HC := Lib.hid hp
  clear hp hs z0 z1
  go_enter Try.func122, Try.ntmps122
  go_wp2_with (first | (go_at_call 25; refine (checkBits_any _ _ _ _ _ _).mono ?_; rintro e w' ⟨rfl, rfl⟩) | (at_make; refine wpList_make_full _ rfl _ _ 52 rfl (w.heap.size + 2) 3 i0 (.int .i64 0) 1 Try.underlying52 hi hz0 hz1 _ _ _ _ W rfl rfl rfl rfl (by rw [hz2]; omega) (by unfold maxLen; omega) (by simp) ?_))
  intro w1 hown1 hgrow1
  rw [toList_madeCells_one, numsOf_zero] at hown1
  have hb1 := (Below.refl (w.heap.size + 2) _).grown hgrow1 (by simp) (by simp)
  have B1 := (below_alloc (new_below w (.cells #[.int .i64 W, .int .i64 H, .slice (some ⟨g, o, none⟩) (W * H) c] 40)) (.cells #[.int .i64 W, .int .i64 H, .slice (some ⟨g, o, none⟩) (W * H) c] 40)).trans (hb1.mono (show w.heap.size ≤ w.heap.size + 2 by omega))
  have k0 : w1.cell? ⟨w.heap.size, 0, none⟩ = some (.int .i64 W) := (hb1.cell (p := ⟨w.heap.size, 0, none⟩) (by simp)).trans (by go_simp)
  have k1 : w1.cell? ⟨w.heap.size, 1, none⟩ = some (.int .i64 H) := (hb1.cell (p := ⟨w.heap.size, 1, none⟩) (by simp)).trans (by go_simp)
  have k2 : w1.cell? ⟨w.heap.size, 2, none⟩ = some (.slice (some ⟨g, o, none⟩) (W * H) c) := (hb1.cell (p := ⟨w.heap.size, 2, none⟩) (by simp)).trans (by go_simp)
  have hlt2 : w.heap.size + 2 < w1.heap.size := (hown1.lt (w.heap.size + 2) rfl).2
  obtain ⟨w2, hw2⟩ : ∃ w2, w2 = w1.alloc (.cells #[.slice (some ⟨w.heap.size + 2, 0, none⟩) W W] 52) := ⟨_, rfl⟩
  have B2 : Below w1.heap.size w1 w2 := by rw [hw2]; exact new_below _ _
  have x0 : w2.cell? ⟨w1.heap.size, 0, none⟩ = some (.slice (some ⟨w.heap.size + 2, 0, none⟩) W W) := by rw [hw2]; go_simp
  have hs2 : w2.heap.size = w1.heap.size + 1 := by rw [hw2]; simp
  have O2 := below_owns hown1 B2
  have HO2 := Lib.hid O2
  have HB12 := Lib.hid (below_step B1 B2)
  have j0 := cell_later B2 k0
  have j1 := cell_later B2 k1
  have j2 := cell_later B2 k2
  have HX := Lib.hid x0
  have HJ := Lib.hid (And.intro j0 (And.intro j1 j2))
  have l0 : w.heap.size < w1.heap.size := by omega
  clear hgrow1 hb1 hown1 O2 B1 B2 x0 j0 j1 j2
  go_wp2_with fail
  rw [← hw2]
  clear hw2 k0 k1 k2
  refine (eachInk_any W H g o c 151 #[.pointer (some ⟨w1.heap.size, 0, none⟩)] z (fun y x wx => CountRel (w.heap.size + 2) w1.heap.size (colsAt z W y x) W w2 wx) (fun b => b ≠ w.heap.size + 2) w2 ⟨by omega, by omega⟩ ⟨by omega, by omega⟩ (Go.Proofs.enters_of Try.func151 (by kernel_rfl) rfl) (fun j hj => cell_later HB12.out (HC.out j hj)) (by omega) (by omega) ?_ ?_ ?_ ?_).mono ?_
  · refine ⟨?_, (Below.refl _ _).alloc (by omega) _, cell_later (new_below _ _) HX.out⟩
    have := below_owns HO2.out (new_below w2 (.cells #[.int .i64 W, .int .i64 H, .slice (some ⟨g, o, none⟩) (W * H) c] 40))
    rw [numsOf_congr (f := fun _ => 0) (g := colsAt z W 0 0) (fun j _ => by unfold colsAt; rw [if_neg (by omega)]; rfl)] at this
    exact this
  · exact fun y wx hy h => h.same fun i hi => colsAt_row z W y i hi
  · exact fun y x wx hx hy hz h => h.same fun i _ => colsAt_no z W y x i hz
  · intro y x wx hx hy hz h
    have hb9 : colsAt z W y x x ≤ 1000000000 := by
      unfold colsAt
      rw [if_neg (by omega)]
      have := sumN_le (fun k => (z (k * W + x)).toNat) 1 (fun j => toNat_le _) y
      unfold colN
      omega
    refine (columns1_any x y w1.heap.size (w.heap.size + 2) W _ wx hx (by omega) hb9 h.2.2 (h.get hx) (h.1.frozenAt x)).mono ?_
    rintro e w' ⟨rfl, rfl⟩
    refine ⟨rfl, h.store (by omega) hx ?_ ?_, fun b hb => Below.heap_setCell _ _ _ _ hb⟩
    · unfold colsAt
      rw [if_pos (by omega), if_neg (by omega), colN, sumN, hz]; rfl
    · intro i hi hne
      unfold colsAt
      by_cases e : i < x
      · rw [if_pos e, if_pos (by omega)]
      · rw [if_neg e, if_neg (by omega)]
  · rintro e w5 ⟨rfl, h5⟩
    have hc5 := h5.2.2
    have HO5 := Lib.hid (h5.same (g := fun x => inkB z W x 0 1 H) fun i hi => colsAt_end z W H i)
    clear h5
    go_wp2_with fail
    go_ret2
    exact ⟨_, rfl, owns_base HO5.out.1 (by omega), HB12.out.trans (HO5.out.2.1.mono (by omega))⟩

/-- What a list of counts is, in memory: nothing with an error, else the counts. -/
def ListIs (E : Int) (f : Nat → Nat) (m B : Nat) (w : World) (sl : Option Addr) (n' c' : Nat) : Prop :=
  (E ≠ 0 ∧ sl = none ∧ n' = 0 ∧ c' = 0) ∨ (E = 0 ∧ n' = m ∧ ∃ g, B ≤ g ∧ sl = some ⟨g, 0, none⟩ ∧ ∀ k, k < m → w.cell? ⟨g, 0 + k, none⟩ = some (.int .i64 ((f k : Nat) : Int)))

theorem ListIs.later {E : Int} {f : Nat → Nat} {m B : Nat} {w w' : World} {sl : Option Addr} {n' c' : Nat} (h : ListIs E f m B w sl n' c') (hb : Below w.heap.size w w') : ListIs E f m B w' sl n' c' := by
  rcases h with h | ⟨h1, h2, g, h3, h4, h5⟩
  · exact .inl h
  · exact .inr ⟨h1, h2, g, h3, h4, fun k hk => cell_later hb (h5 k hk)⟩

theorem owns_nums {w : World} {base : Nat} {v : Value} {f : Nat → Nat} {m : Nat} (h : w.ownsRow base 3 1 v m (numsOf f m)) (hm : 1 ≤ m) :
    ∃ g c, v = .slice (some ⟨g, 0, none⟩) m c ∧ base ≤ g ∧ ∀ k, k < m → w.cell? ⟨g, 0 + k, none⟩ = some (.int .i64 ((f k : Nat) : Int)) := by
  rcases h.2 with ⟨_, h0⟩ | ⟨g, c, cur, rfl, hg, _⟩
  · omega
  · exact ⟨g, c, rfl, hg, fun k hk => by rw [Nat.zero_add, h.cellAt k (by omega), numsOf_get f m k hk]⟩

end Go.Proofs.Ytofcojcfcpfdmaa
namespace Go.Proofs.Ytofcojcfcpfdmaa
open Go.RowKit
set_option linter.unusedSimpArgs false
set_option linter.unusedVariables false

/-- A list of numbers in memory. -/
def intsOf (f : Nat → Int) (n : Nat) : List Value := (List.range n).map fun k => Value.int .i64 (f k)
theorem intsOf_get (f : Nat → Int) (n k : Nat) (h : k < n) : (intsOf f n)[k]? = some (.int .i64 (f k)) := by simp [intsOf, List.getElem?_range h]
theorem intsOf_length (f : Nat → Int) (n : Nat) : (intsOf f n).length = n := by simp [intsOf]
theorem intsOf_set {f g : Nat → Int} {n j : Nat} {v : Int} (hj : j < n) (hv : g j = v) (h : ∀ i, i < n → i ≠ j → g i = f i) : (intsOf f n).set j (.int .i64 v) = intsOf g n := by
  apply List.ext_getElem?
  intro k
  rw [List.getElem?_set]
  by_cases e : j = k
  · subst e
    rw [if_pos rfl, intsOf_length, if_pos hj, intsOf_get g n j hj, hv]
  · rw [if_neg e]
    by_cases hk : k < n
    · rw [intsOf_get f n k hk, intsOf_get g n k hk, h k hk (fun e' => e e'.symm)]
    · rw [List.getElem?_eq_none (by rw [intsOf_length]; omega), List.getElem?_eq_none (by rw [intsOf_length]; omega)]
theorem intsOf_zero (n : Nat) : List.replicate n (Value.int .i64 0) = intsOf (fun _ => 0) n := by
  apply List.ext_getElem?
  intro k
  by_cases hk : k < n
  · rw [intsOf_get _ n k hk]; simp [hk]
  · rw [List.getElem?_eq_none (by simp; omega), List.getElem?_eq_none (by rw [intsOf_length]; omega)]
theorem intsOf_congr {f g : Nat → Int} {n : Nat} (h : ∀ j, j < n → f j = g j) : intsOf f n = intsOf g n := by
  apply List.ext_getElem?
  intro k
  by_cases hk : k < n
  · rw [intsOf_get f n k hk, intsOf_get g n k hk, h k hk]
  · rw [List.getElem?_eq_none (by rw [intsOf_length]; omega), List.getElem?_eq_none (by rw [intsOf_length]; omega)]

/-- By how much a column goes. -/
def fallV (L : Nat) (n : Int) (x : Nat) : Int := shiftV (n * ((x : Int) - (((L - 1) / 2 : Nat) : Int)))

theorem fall_prod {L x : Nat} {n : Int} (hL : L ≤ 4000) (hn : -256 ≤ n ∧ n ≤ 256) (hx : x < L) : -1100000 ≤ n * ((x : Int) - (((L - 1) / 2 : Nat) : Int)) ∧ n * ((x : Int) - (((L - 1) / 2 : Nat) : Int)) ≤ 1100000 := by
  obtain ⟨d, hd⟩ : ∃ d, d = (x : Int) - (((L - 1) / 2 : Nat) : Int) := ⟨_, rfl⟩
  rw [← hd]
  have h1 : -4000 ≤ d ∧ d ≤ 4000 := by omega
  have h2 : (n * d).natAbs ≤ 256 * 4000 := by rw [Int.natAbs_mul]; exact Nat.mul_le_mul (by omega) (by omega)
  omega
theorem fallV_bounds {L x : Nat} {n : Int} (hL : L ≤ 4000) (hn : -256 ≤ n ∧ n ≤ 256) (hx : x < L) : -1100 ≤ fallV L n x ∧ fallV L n x ≤ 1100 := shiftV_bounds (fall_prod hL hn hx)
set_option maxHeartbeats 800000 in
theorem shifts_any (L : Nat) (n : Int) (w : World) (hL : 1 ≤ L ∧ L ≤ 4000) (hn : -256 ≤ n ∧ n ≤ 256) :
    Calls Try.prog 73 #[.int .i64 L, .int .i64 n] w fun e w' => ∃ v, e = .returned v ∧ w'.ownsRow w.heap.size 3 1 v L (intsOf (fallV L n) L) ∧ Below w.heap.size w w' := by
  obtain ⟨i0, hi, hz0, hz1, hz2⟩ := info_parts info_int
  obtain ⟨m, hm⟩ : ∃ m, m = (L - 1) / 2 := ⟨_, rfl⟩
  have e1 : ((L : Int) - 1) / 2 = (m : Int) := by omega
  have hm2 : m ≤ 4000 := by omega
  have HM := Lib.hid hm
  have HN := Lib.hid hn
  obtain ⟨n1, n2⟩ := hn
  clear hm
  go_enter Try.func73, Try.ntmps73
  go_wp2_with (at_make; refine wpList_make_full _ rfl _ _ 52 rfl w.heap.size 3 i0 (.int .i64 0) 1 Try.underlying52 hi hz0 hz1 _ _ _ _ L rfl rfl rfl rfl (by rw [hz2]; omega) (by unfold maxLen; omega) (by simp) ?_)
  intro w1 hown1 hgrow1
  rw [toList_madeCells_one, intsOf_zero] at hown1
  have hb1 := (Below.refl w.heap.size _).grown hgrow1 (by simp) (by simp)
  have HST := Lib.hid (show w1.ownsRow w.heap.size 3 1 (.slice (some ⟨w.heap.size, 0, none⟩) L L) L (intsOf (fun j => if j < 0 then fallV L n j else 0) L) ∧ Below w.heap.size w w1 from ⟨by rw [intsOf_congr (g := fun _ => 0) (fun j _ => if_neg (by omega))]; exact hown1, hb1⟩)
  clear hgrow1 hb1 hown1
  go_wp2_with fail
  go_loopw [15] (fun i wr => ∃ j : Nat, j ≤ L ∧ i = .int .i64 j ∧ Hid (wr.ownsRow w.heap.size 3 1 (.slice (some ⟨w.heap.size, 0, none⟩) L L) L (intsOf (fun k => if k < j then fallV L n k else 0) L) ∧ Below w.heap.size w wr)) (fun i _ => L - (intOf i).toNat)
  case atStart => exact ⟨0, Nat.zero_le _, rfl, HST⟩
  case round =>
    obtain ⟨j, hj, rfl, HR⟩ := hrel
    by_cases hlt : j < L
    · have hcell := HR.out.1.cellAt j (by omega)
      rw [intsOf_get _ _ _ hlt, if_neg (by omega)] at hcell
      have hfz := HR.out.1.frozenAt j
      have hpr := fall_prod hL.2 HN.out hlt
      rw [← HM.out] at hpr
      obtain ⟨p, hp⟩ : ∃ p, p = n * ((j : Int) - (m : Int)) := ⟨_, rfl⟩
      rw [← hp] at hpr
      have hp' : n * ((j : Int) - (m : Int)) = p := hp.symm
      obtain ⟨p1, p2⟩ := hpr
      have i1 : (j : Int) < (L : Int) := by omega
      have HP := Lib.hid hp
      clear hp
      go_wp2_with fail
      refine (shift_any p _ ⟨p1, p2⟩).mono ?_
      rintro e wq ⟨rfl, rfl⟩
      obtain ⟨s, hs⟩ : ∃ s, s = shiftV p := ⟨_, rfl⟩
      have hsf : fallV L n j = s := by rw [hs]; unfold fallV; rw [HP.out, ← HM.out]
      rw [← hs]
      have HS := Lib.hid hsf
      clear hs hsf
      go_wp2_with fail
      go_roundw
      case rel =>
        refine ⟨j + 1, by omega, by go_num, Lib.hid ⟨?_, HR.out.2.setCell (by simp) _⟩⟩
        have h := (HR.out.1.stored j (.int .i64 s)).1
        rw [intsOf_set (g := fun k => if k < j + 1 then fallV L n k else 0) hlt (by rw [if_pos (by omega)]; exact HS.out) (fun i _ hne => by
          by_cases h1 : i < j
          · rw [if_pos (by omega), if_pos h1]
          · rw [if_neg (by omega), if_neg h1])] at h
        exact h
      case measure => simp [intOf]; omega
    · obtain rfl : j = L := by omega
      go_wp2_with fail
      go_ret
      refine ⟨_, rfl, ?_, HR.out.2⟩
      have h := HR.out.1
      rw [intsOf_congr (g := fallV j n) (fun k hk => if_pos hk)] at h
      exact h

end Go.Proofs.Ytofcojcfcpfdmaa
