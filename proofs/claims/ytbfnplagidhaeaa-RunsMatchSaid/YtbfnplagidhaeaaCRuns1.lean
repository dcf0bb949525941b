/-
  What runs_holds leans on: contracts of the functions that it calls.
-/
import Derived.Test.YtbfnplagidhaeaaRows
import Derived.WalkKit
import Derived.WalkSpells
import Derived.WalkLawsBesides
import Derived.Lib.Hide
import Derived.Deep.RegionHeld3
import Derived.Shelf.Abstract
import Derived.ProofKit
import Derived.OpenShut
import Derived.ShutString
import Derived.ChangeOld
import Derived.Lib.SmallJoins
import Derived.Deep.Grids
import Derived.Deep.AppendLies
import Derived.Deep.DrawnRows
import Derived.Deep.DeepCutAuto
import Derived.Deep.CutRange
import Derived.Deep.QuietTactic
import Derived.BigQuiet
namespace Go.Proofs.Ytbfnplagidhaeaa
open Go.RowKit
set_option linter.unusedSimpArgs false
set_option linter.unusedVariables false

theorem ret_int {k : IntKind} {a b : Int} (h : a = b) : Ending.returned (.int k a) = .returned (.int k b) := by rw [h]
theorem ret_bool {a b : Bool} (h : a = b) : Ending.returned (.bool a) = .returned (.bool b) := by rw [h]

theorem outside_no (n a b : Int) (w : World) (h : a ≤ n ∧ n ≤ b) : Calls Try.prog 13 #[.int .i64 n, .int .i64 a, .int .i64 b] w fun r w' => r = .returned (.bool false) ∧ w = w' := by
  obtain ⟨h1, h2⟩ := h
  have h3 : ¬ n < a := by omega
  have h4 : ¬ b < n := by omega
  go_enter Try.func13, Try.ntmps13
  go_wp2
  go_ret
  exact ⟨rfl, rfl⟩
theorem outside_yes (n a b : Int) (w : World) (h : ¬ (a ≤ n ∧ n ≤ b)) : Calls Try.prog 13 #[.int .i64 n, .int .i64 a, .int .i64 b] w fun r w' => r = .returned (.bool true) ∧ w = w' := by
  by_cases h1 : n < a
  · clear h
    go_enter Try.func13, Try.ntmps13
    go_wp2
    go_ret
    exact ⟨rfl, rfl⟩
  · have h4 : b < n := by omega
    clear h
    go_enter Try.func13, Try.ntmps13
    go_wp2
    go_ret
    exact ⟨rfl, rfl⟩
/-- The error of a size. -/
def sizeErr (w h : Int) : Int := if w < 1 ∨ h < 1 ∨ 4000 < w ∨ 4000 < h then 3 else if 1048576 < w * h then 4 else 0

theorem mul_small {a b : Int} (ha : 1 ≤ a) (hb : 1 ≤ b) (ha' : a ≤ 4000) (hb' : b ≤ 4000) : 0 ≤ a * b ∧ a * b ≤ 16000000 := by
  refine ⟨Int.mul_nonneg (by omega) (by omega), ?_⟩
  have := Int.mul_le_mul ha' hb' (by omega) (by omega : (0:Int) ≤ 4000)
  omega

set_option maxRecDepth 100000 in
theorem checkSize_any (a b : Int) (w : World) : Calls Try.prog 19 #[.int .i64 a, .int .i64 b] w fun r w' => r = .returned (.int .i64 (sizeErr a b)) ∧ w = w' := by
  by_cases h1 : 1 ≤ a ∧ a ≤ 4000
  · have H1 := Lib.hid h1
    by_cases h2 : 1 ≤ b ∧ b ≤ 4000
    · have H2 := Lib.hid h2
      have hm := mul_small (by omega : 1 ≤ a) (by omega : 1 ≤ b) (by omega) (by omega)
      have hw : wrap64 (a * b) = a * b := by unfold wrap64; omega
      by_cases h5 : 1048576 < a * b
      · have HS := Lib.hid (show sizeErr a b = 4 by unfold sizeErr; rw [if_neg (by omega), if_pos h5])
        clear h1 h2
        go_enter Try.func19, Try.ntmps19
        go_wp2_with (first | (go_at_call 13; (with_reducible refine (outside_no a 1 4000 _ H1.out).mono ?_); rintro e w' ⟨rfl, rfl⟩) | (go_at_call 13; (with_reducible refine (outside_no b 1 4000 _ H2.out).mono ?_); rintro e w' ⟨rfl, rfl⟩))
        go_ret
        exact ⟨ret_int HS.out.symm, rfl⟩
      · have HS := Lib.hid (show sizeErr a b = 0 by unfold sizeErr; rw [if_neg (by omega), if_neg h5])
        clear h1 h2
        go_enter Try.func19, Try.ntmps19
        go_wp2_with (first | (go_at_call 13; (with_reducible refine (outside_no a 1 4000 _ H1.out).mono ?_); rintro e w' ⟨rfl, rfl⟩) | (go_at_call 13; (with_reducible refine (outside_no b 1 4000 _ H2.out).mono ?_); rintro e w' ⟨rfl, rfl⟩))
        go_ret
        exact ⟨ret_int HS.out.symm, rfl⟩
    · have H2 := Lib.hid h2
      have HS := Lib.hid (show sizeErr a b = 3 by unfold sizeErr; rw [if_pos (by omega)])
      clear h1 h2
      go_enter Try.func19, Try.ntmps19
      go_wp2_with (first | (go_at_call 13; (with_reducible refine (outside_no a 1 4000 _ H1.out).mono ?_); rintro e w' ⟨rfl, rfl⟩) | (go_at_call 13; (with_reducible refine (outside_yes b 1 4000 _ H2.out).mono ?_); rintro e w' ⟨rfl, rfl⟩))
      go_ret
      exact ⟨ret_int HS.out.symm, rfl⟩
  · have H1 := Lib.hid h1
    have HS := Lib.hid (show sizeErr a b = 3 by unfold sizeErr; rw [if_pos (by omega)])
    clear h1
    go_enter Try.func19, Try.ntmps19
    go_wp2_with (first | (go_at_call 13; (with_reducible refine (outside_yes a 1 4000 _ H1.out).mono ?_); rintro e w' ⟨rfl, rfl⟩))
    go_ret
    exact ⟨ret_int HS.out.symm, rfl⟩

end Go.Proofs.Ytbfnplagidhaeaa
namespace Go.Proofs.Ytbfnplagidhaeaa
open Go.RowKit
set_option linter.unusedSimpArgs false
set_option linter.unusedVariables false

theorem new_below (w : World) (o : Obj) : Below w.heap.size w (w.alloc o) := (Below.refl _ _).alloc (Nat.le_refl _) _
theorem below_step {w a b : World} (h : Below w.heap.size w a) (k : Below a.heap.size a b) : Below w.heap.size w b := h.trans (k.mono h.size)
theorem below_alloc {w a : World} (h : Below w.heap.size w a) (o : Obj) : Below w.heap.size w (a.alloc o) := h.alloc h.size o

theorem sizeErr_zero {a b : Int} (h : sizeErr a b = 0) : (1 ≤ a ∧ a ≤ 4000 ∧ 1 ≤ b ∧ b ≤ 4000) ∧ 0 ≤ a * b ∧ a * b ≤ 1048576 := by
  unfold sizeErr at h
  split at h
  · simp at h
  · split at h
    · simp at h
    · have := mul_small (by omega : 1 ≤ a) (by omega : 1 ≤ b) (by omega) (by omega)
      omega

/-- The error of a page: of its size, else of the number of its pixels. -/
def pageErr (a b : Int) (n : Nat) : Int := if sizeErr a b = 0 then (if (n : Int) = a * b then 0 else 2) else sizeErr a b

theorem check_any (a b : Int) (n : Nat) (w : World) : Calls Try.prog 18 #[.int .i64 a, .int .i64 b, .int .i64 n] w fun r w' => r = .returned (.int .i64 (pageErr a b n)) ∧ w = w' := by
  by_cases h : sizeErr a b = 0
  · have hz := sizeErr_zero h
    have H := Lib.hid h
    have hs : pageErr a b n = if (n : Int) = a * b then 0 else 2 := by unfold pageErr; rw [if_pos h]
    have HS := Lib.hid hs
    have hw : wrap64 (a * b) = a * b := by unfold wrap64; omega
    by_cases h2 : (n : Int) = a * b
    · have h2' : ((n : Int) != a * b) = false := by simpa using h2
      have H2 := Lib.hid h2
      clear h2 hs
      go_enter Try.func18, Try.ntmps18
      go_wp2_with ((go_at_call 19; refine (checkSize_any _ _ _).mono ?_; rintro e w' ⟨rfl, rfl⟩))
      go_ret
      exact ⟨ret_int (by rw [HS.out, if_pos H2.out]), rfl⟩
    · have h2' : ((n : Int) != a * b) = true := by simpa using h2
      have H2 := Lib.hid h2
      clear h2 hs
      go_enter Try.func18, Try.ntmps18
      go_wp2_with ((go_at_call 19; refine (checkSize_any _ _ _).mono ?_; rintro e w' ⟨rfl, rfl⟩))
      go_ret
      exact ⟨ret_int (by rw [HS.out, if_neg H2.out]), rfl⟩
  · have h' : (sizeErr a b != 0) = true := by simpa using h
    have H := Lib.hid h
    clear h
    go_enter Try.func18, Try.ntmps18
    go_wp2_with ((go_at_call 19; refine (checkSize_any _ _ _).mono ?_; rintro e w' ⟨rfl, rfl⟩))
    go_ret
    exact ⟨ret_int (by unfold pageErr; rw [if_neg H.out]), rfl⟩

theorem checkBits_any (a b : Int) (p : Option Addr) (n c : Nat) (w : World) : Calls Try.prog 16 #[.agg #[.int .i64 a, .int .i64 b, .slice p n c]] w fun r w' => r = .returned (.int .i64 (pageErr a b n)) ∧ w.alloc (.cells #[.int .i64 a, .int .i64 b, .slice p n c] 37) = w' := by
  go_enter Try.func16, Try.ntmps16
  go_wp2_with ((go_at_call 18; refine (check_any _ _ _ _).mono ?_; rintro e w' ⟨rfl, rfl⟩))
  go_ret
  exact ⟨rfl, rfl⟩

end Go.Proofs.Ytbfnplagidhaeaa
namespace Go.Proofs.Ytbfnplagidhaeaa
open Go.RowKit
set_option linter.unusedSimpArgs false
set_option linter.unusedVariables false

theorem below_owns {w w' : World} {base : Nat} {e : TypeId} {size : Nat} {v : Value} {n : Nat} {xs : List Value} (h : w.ownsRow base e size v n xs) (hb : Below w.heap.size w w') : w'.ownsRow base e size v n xs :=
  h.kept (row := none) ⟨hb.os, hb.tape, hb.output, hb.size, fun k hk _ => hb.block k hk⟩ (by cases v.ownBlock <;> simp)

theorem info_int : (Try.prog.info? 3).map (fun i => (i.zero, i.size, i.bytes)) = some (some (.int .i64 0), 1, 8) := by kernel_rfl

theorem owns_base {w : World} {base base' : Nat} {e : TypeId} {size : Nat} {v : Value} {n : Nat} {xs : List Value} (h : w.ownsRow base e size v n xs) (hb : base' ≤ base) : w.ownsRow base' e size v n xs := by
  obtain ⟨h1, h2⟩ := h
  refine ⟨h1, ?_⟩
  rcases h2 with h2 | ⟨g, cap, cur, hv, hg, r⟩
  · exact Or.inl h2
  · exact Or.inr ⟨g, cap, cur, hv, Nat.le_trans hb hg, r⟩

theorem info_bool : (Try.prog.info? 4).map (fun i => (i.zero, i.size, i.bytes)) = some (some (.bool false), 1, 1) := by kernel_rfl

theorem below_drewN {B : Nat} {a w : World} (h : Below B a w) (q : Nat) : Below B a (w.drewN q) := ⟨h.os, h.tape, h.output, h.size, h.block⟩

end Go.Proofs.Ytbfnplagidhaeaa
namespace Go.Proofs.Ytbfnplagidhaeaa
open Go.ChangeShapes Go.WideShapes Go.ChangeAt Go.RowKit Go.Joins
open Go.ChangeMaps (open_string shut_string)
set_option linter.unusedVariables false

theorem own : ownKnob Try.prog.godebug = none := by kernel_rfl
theorem laidOut : laidOutB Try.prog = true := by kernel_rfl
theorem cellsBool : Try.prog.cellsOf 4 = 1 := by kernel_rfl

/-- A slice of bools that came in: nil; or its cells hold what B tells. -/
def IsBools (w : World) (a : Option Addr) (len cap : Nat) (B : Nat → Bool) : Prop :=
  (a = none ∧ len = 0 ∧ cap = 0) ∨ ∃ x, a = some x ∧ ∀ i, i < len → w.cell? (x.add i) = some (.bool (B i))

theorem isBools_cells {w : World} {a : Option Addr} {len cap : Nat} {B : Nat → Bool} (h : IsBools w a len cap B) (hl : 1 ≤ len) :
    ∃ pb po, a = some ⟨pb, po, none⟩ ∧ ∀ j, j < len → w.cell? ⟨pb, po + j, none⟩ = some (.bool (B j)) := by
  rcases h with ⟨_, h0, _⟩ | ⟨⟨pb, po, spot⟩, rfl, hcell⟩
  · omega
  · have hspot : spot = none := by simpa [Addr.add] using World.cell?_spot (hcell 0 (by omega))
    subst hspot
    exact ⟨pb, po, rfl, fun j hj => by have := hcell j hj; rwa [Addr.add_lit] at this⟩

theorem isBools_later {w w' : World} {a : Option Addr} {len cap : Nat} {B : Nat → Bool} (h : IsBools w a len cap B) (hb : Below w.heap.size w w') : IsBools w' a len cap B := by
  rcases h with h | ⟨x, h1, h2⟩
  · exact .inl h
  · exact .inr ⟨x, h1, fun i hi => (hb.cell (World.block_lt_of_cell? _ _ (h2 i hi))).trans (h2 i hi)⟩

end Go.Proofs.Ytbfnplagidhaeaa
namespace Go.Proofs.Ytbfnplagidhaeaa
set_option linter.unusedSimpArgs false
set_option linter.unusedVariables false

/-- The pixel ahead of place k; ahead of the first one stands no ink. -/
def lastB (z : Nat → Bool) : Nat → Bool
  | 0 => false
  | k + 1 => z k
/-- The runs of the first k pixels: those that are closed, and the last one. -/
def rnS (z : Nat → Bool) : Nat → List Nat × Nat
  | 0 => ([], 0)
  | k + 1 => if z k = lastB z k then ((rnS z k).1, (rnS z k).2 + 1) else ((rnS z k).1 ++ [(rnS z k).2], 1)
def rnL (z : Nat → Bool) (k : Nat) : List Nat := (rnS z k).1 ++ [(rnS z k).2]
/-- The runs of a row of n pixels: an empty one has none. -/
def runsL (z : Nat → Bool) (n : Nat) : List Nat := if n = 0 then [] else rnL z n
def intOfs (l : List Nat) (i : Nat) : Int := ((l.getD i 0 : Nat) : Int)

/-- The row of the first i runs. -/
def frRow (L : Nat → Int) : Nat → List Bool
  | 0 => []
  | i + 1 => frRow L i ++ List.replicate (L i).toNat (decide (i % 2 = 1))
/-- The first i runs are neither too short nor, with those ahead, too long. -/
def frGood (L : Nat → Int) (W i : Nat) : Prop := ∀ j, j < i → ((min j 1 : Nat) : Int) ≤ L j ∧ L j ≤ (W : Int) - ((frRow L j).length : Nat)
open Classical in
noncomputable def frErr (L : Nat → Int) (m : Nat) (w : Int) : Int := if w > 4000 then 4 else if w < 0 then 3 else if frGood L w.toNat m ∧ (frRow L m).length = w.toNat then 0 else 2
noncomputable def frOut (L : Nat → Int) (m : Nat) (w : Int) : List Bool := if frErr L m w = 0 then frRow L m else []

theorem frRow_congr {L M : Nat → Int} {i : Nat} (h : ∀ j, j < i → L j = M j) : frRow L i = frRow M i := by
  induction i with
  | zero => rfl
  | succ i ih => rw [frRow, frRow, ih (fun j hj => h j (by omega)), h i (by omega)]
theorem frRow_mono (L : Nat → Int) {i j : Nat} (h : i ≤ j) : (frRow L i).length ≤ (frRow L j).length := by
  induction h with
  | refl => exact Nat.le_refl _
  | step h ih => rw [frRow, List.length_append]; omega
theorem frRow_le {L : Nat → Int} {W i : Nat} (h : frGood L W i) : (frRow L i).length ≤ W := by
  cases i with
  | zero => simp [frRow]
  | succ i =>
    have := h i (by omega)
    rw [frRow, List.length_append, List.length_replicate]
    omega
theorem frGood_succ {L : Nat → Int} {W i : Nat} (h : frGood L W i) (h1 : ((min i 1 : Nat) : Int) ≤ L i) (h2 : L i ≤ (W : Int) - ((frRow L i).length : Nat)) : frGood L W (i + 1) := by
  intro j hj
  by_cases e : j = i
  · subst e; exact ⟨h1, h2⟩
  · exact h j (by omega)
theorem frErr_bad {L : Nat → Int} {m i : Nat} {w : Int} (h1 : ¬ w > 4000) (h2 : ¬ w < 0) (hi : i < m) (h : ¬ (((min i 1 : Nat) : Int) ≤ L i ∧ L i ≤ (w.toNat : Int) - ((frRow L i).length : Nat))) : frErr L m w = 2 := by
  unfold frErr
  rw [if_neg h1, if_neg h2, if_neg (fun k => h (k.1 i hi))]
theorem frErr_long {L : Nat → Int} {m : Nat} {w : Int} (h1 : ¬ w > 4000) (h2 : ¬ w < 0) (h : (frRow L m).length ≠ w.toNat) : frErr L m w = 2 := by
  unfold frErr
  rw [if_neg h1, if_neg h2, if_neg (fun k => h k.2)]
theorem frErr_ok {L : Nat → Int} {m : Nat} {w : Int} (h1 : ¬ w > 4000) (h2 : ¬ w < 0) (h : frGood L w.toNat m) (hl : (frRow L m).length = w.toNat) : frErr L m w = 0 := by
  unfold frErr
  rw [if_neg h1, if_neg h2, if_pos ⟨h, hl⟩]

theorem rn_snoc (a : List Nat) (x : Nat) : frRow (intOfs (a ++ [x])) (a.length + 1) = frRow (intOfs a) a.length ++ List.replicate x (decide (a.length % 2 = 1)) := by
  rw [frRow, frRow_congr (L := intOfs (a ++ [x])) (M := intOfs a) (i := a.length) (fun j hj => by simp [intOfs, List.getD, List.getElem?_append_left hj])]
  simp [intOfs, List.getD]

theorem rn_row (z : Nat → Bool) (k : Nat) :
    frRow (intOfs (rnS z k).1) (rnS z k).1.length ++ List.replicate (rnS z k).2 (decide ((rnS z k).1.length % 2 = 1)) = (List.range k).map z ∧ decide ((rnS z k).1.length % 2 = 1) = lastB z k ∧
    (∀ j, 1 ≤ j → j < (rnS z k).1.length → 1 ≤ (rnS z k).1.getD j 0) ∧ (1 ≤ (rnS z k).1.length → 1 ≤ (rnS z k).2) ∧ (rnS z k).1.length ≤ k ∧ (rnS z k).2 ≤ k ∧ ∀ x, x ∈ (rnS z k).1 → x ≤ k := by
  induction k with
  | zero => simp [rnS, frRow, lastB]
  | succ k ih =>
    obtain ⟨i1, i2, i3, i4, i5, i6, i7⟩ := ih
    rw [rnS]
    by_cases h : z k = lastB z k
    · rw [if_pos h]
      refine ⟨?_, by rw [i2]; exact h.symm, i3, fun h => by have := i4 h; simp only; omega, by simp only; omega, by simp only; omega, fun x hx => by have := i7 x hx; omega⟩
      rw [List.replicate_succ', ← List.append_assoc, i1, List.range_succ, List.map_append, i2, ← h]
      rfl
    · rw [if_neg h]
      simp only [List.length_append, List.length_singleton]
      have e2 : decide (((rnS z k).1.length + 1) % 2 = 1) = z k := by
        have hz : z k = !(lastB z k) := by revert h; cases z k <;> cases lastB z k <;> simp
        rw [hz, ← i2]
        by_cases hm : (rnS z k).1.length % 2 = 1
        · rw [decide_eq_true hm, decide_eq_false (by omega)]; rfl
        · rw [decide_eq_false hm, decide_eq_true (by omega)]; rfl
      refine ⟨?_, e2, fun j h1 h2 => ?_, fun _ => Nat.le_refl 1, by omega, by omega, fun x hx => ?_⟩
      · rw [rn_snoc, i1, e2, List.range_succ, List.map_append]
        rfl
      · by_cases e : j = (rnS z k).1.length
        · subst e
          have := i4 h1
          simpa [List.getD] using this
        · have := i3 j h1 (by omega)
          simpa [List.getD, List.getElem?_append_left (show j < (rnS z k).1.length by omega)] using this
      · rcases List.mem_append.1 hx with hx | hx
        · have := i7 x hx; omega
        · have : x = (rnS z k).2 := by simpa using hx
          omega

theorem rnL_length (z : Nat → Bool) (k : Nat) : (rnL z k).length = (rnS z k).1.length + 1 := by simp [rnL]
theorem rnL_row (z : Nat → Bool) (k : Nat) : frRow (intOfs (rnL z k)) (rnL z k).length = (List.range k).map z := by
  rw [rnL_length, rnL, rn_snoc]
  exact (rn_row z k).1
theorem rnL_good (z : Nat → Bool) (k : Nat) : frGood (intOfs (rnL z k)) k (rnL z k).length := by
  intro j hj
  have h1 := frRow_mono (intOfs (rnL z k)) (show j + 1 ≤ (rnL z k).length by omega)
  rw [rnL_row, frRow, List.length_append, List.length_replicate, List.length_map, List.length_range] at h1
  obtain ⟨_, _, i3, i4, _⟩ := rn_row z k
  have h0 : 0 ≤ intOfs (rnL z k) j := by unfold intOfs; omega
  refine ⟨?_, by omega⟩
  by_cases hj0 : j = 0
  · subst hj0; simpa using h0
  · rw [rnL_length] at hj
    have : 1 ≤ (rnL z k).getD j 0 := by
      unfold rnL
      by_cases e : j = (rnS z k).1.length
      · subst e
        have := i4 (by omega)
        simpa [List.getD] using this
      · have := i3 j (by omega) (by omega)
        simpa [List.getD, List.getElem?_append_left (show j < (rnS z k).1.length by omega)] using this
    unfold intOfs
    omega

theorem runs_from (z : Nat → Bool) (n : Nat) (hn : n ≤ 4000) : frErr (intOfs (runsL z n)) (runsL z n).length n = 0 ∧ frOut (intOfs (runsL z n)) (runsL z n).length n = (List.range n).map z := by
  have key : frErr (intOfs (runsL z n)) (runsL z n).length n = 0 ∧ frRow (intOfs (runsL z n)) (runsL z n).length = (List.range n).map z := by
    unfold runsL
    by_cases h : n = 0
    · subst h
      rw [if_pos rfl]
      exact ⟨frErr_ok (by omega) (by omega) (fun j hj => by simp at hj) (by simp [frRow]), by simp [frRow]⟩
    · rw [if_neg h]
      exact ⟨frErr_ok (by omega) (by omega) (by simpa using rnL_good z n) (by rw [rnL_row]; simp), rnL_row z n⟩
  exact ⟨key.1, by unfold frOut; rw [if_pos key.1]; exact key.2⟩

end Go.Proofs.Ytbfnplagidhaeaa
namespace Go.Proofs.Ytbfnplagidhaeaa
open Go.RowKit
set_option linter.unusedSimpArgs false
set_option linter.unusedVariables false

def natsV (l : List Nat) : List Value := l.map fun x => Value.int .i64 ((x : Nat) : Int)
theorem natsV_len (l : List Nat) : (natsV l).length = l.length := by simp [natsV]
theorem natsV_snoc (l : List Nat) (x : Nat) : natsV l ++ [.int .i64 ((x : Nat) : Int)] = natsV (l ++ [x]) := by simp [natsV]
theorem natsV_get (l : List Nat) (j : Nat) (h : j < l.length) : (natsV l)[j]? = some (.int .i64 (intOfs l j)) := by simp [natsV, intOfs, List.getD, h]
theorem owns_slice {w : World} {N : Nat} {e : TypeId} {v : Value} {n : Nat} {xs : List Value} (h : w.ownsRow N e 1 v n xs) (hn : 0 < n) : ∃ g c, v = .slice (some ⟨g, 0, none⟩) n c := by
  rcases h.2 with ⟨h0, h1⟩ | ⟨g, cap, cur, h0, _⟩
  · omega
  · exact ⟨g, cap, h0⟩

/-- The last run of those at hand is one longer. -/
theorem rn_longer {w : World} {N g c : Nat} {I : List Nat} {x : Nat} (h : w.ownsRow N 3 1 (.slice (some ⟨g, 0, none⟩) (I.length + 1) c) (I.length + 1) (natsV (I ++ [x]))) :
    (w.setCell ⟨g, I.length, none⟩ (.int .i64 ((x : Int) + 1))).ownsRow N 3 1 (.slice (some ⟨g, 0, none⟩) (I.length + 1) c) (I.length + 1) (natsV (I ++ [x + 1])) := by
  have := (h.stored I.length (.int .i64 ((x : Int) + 1))).1
  rw [show natsV (I ++ [x + 1]) = (natsV (I ++ [x])).set I.length (.int .i64 ((x : Int) + 1)) by
    rw [← natsV_snoc, ← natsV_snoc, List.set_append_right _ _ (by rw [natsV_len]; exact Nat.le_refl _), natsV_len, Nat.sub_self]
    rfl]
  exact this
theorem rn_last {w : World} {N g c : Nat} {I : List Nat} {x : Nat} (h : w.ownsRow N 3 1 (.slice (some ⟨g, 0, none⟩) (I.length + 1) c) (I.length + 1) (natsV (I ++ [x]))) : w.cell? ⟨g, I.length, none⟩ = some (.int .i64 (x : Int)) := by
  rw [h.cellAt I.length (by omega), natsV_get _ _ (by simp)]
  simp [intOfs, List.getD]

/-- Runs in memory, on the way. -/
def RnSt (z : Nat → Bool) (N k : Nat) (v : Value) (w : World) : Prop := w.ownsRow N 3 1 v ((rnS z k).1.length + 1) (natsV ((rnS z k).1 ++ [(rnS z k).2]))

set_option maxHeartbeats 1000000 in
set_option maxRecDepth 100000 in
theorem runsOf_row (n g o c : Nat) (z : Nat → Bool) (w : World) (hn : 1 ≤ n ∧ n ≤ 4000) (hnc : n ≤ c) (hp : ∀ j, j < n → w.cell? ⟨g, o + j, none⟩ = some (.bool (z j))) :
    Calls Try.prog 17 #[.agg #[.int .i64 n, .int .i64 1, .slice (some ⟨g, o, none⟩) n c], .int .i64 0] w fun e w' => ∃ v, e = .returned v ∧ w'.ownsRow w.heap.size 3 1 v (runsL z n).length (natsV (runsL z n)) ∧ Below w.heap.size w w' := by
  obtain ⟨i0, hi, hz0, hz1, hz2⟩ := info_parts info_int
  have hcl := World.block_lt_of_cell? _ _ (hp 0 (by omega))
  simp only at hcl
  have HC := Lib.hid hp
  clear hp
  go_enter Try.func17, Try.ntmps17
  go_upto_region 2 with fail
  obtain ⟨w1, hw1⟩ : ∃ w1, w1 = (w.alloc (.cells #[.int .i64 n, .int .i64 1, .slice (some ⟨g, o, none⟩) n c] 37)).alloc (.cells #[.int .i64 0] 3) := ⟨_, rfl⟩
  have hb1 : Below w.heap.size w w1 := by rw [hw1]; exact below_alloc (new_below _ _) _
  have hs1 : w1.heap.size = w.heap.size + 2 := by rw [hw1]; simp
  have q0 : w1.cell? ⟨w.heap.size, 0, none⟩ = some (.int .i64 n) := by rw [hw1]; go_simp
  have q1 : w1.cell? ⟨w.heap.size, 1, none⟩ = some (.int .i64 1) := by rw [hw1]; go_simp
  have q2 : w1.cell? ⟨w.heap.size, 2, none⟩ = some (.slice (some ⟨g, o, none⟩) n c) := by rw [hw1]; go_simp
  have hown : w1.ownsRow (w.heap.size + 1) 3 1 (.slice (some ⟨w.heap.size + 1, 0, none⟩) 1 1) 1 [.int .i64 0] := by
    rw [hw1]
    have := World.ownsRow_lit (base := w.heap.size + 1) (e := 3) (size := 1) (w.alloc (.cells #[.int .i64 n, .int .i64 1, .slice (some ⟨g, o, none⟩) n c] 37)) #[.int .i64 0] 1 (by simp) (by decide) rfl
    simpa using this
  have HS := Lib.hid (show RnSt z (w.heap.size + 1) 0 (.slice (some ⟨w.heap.size + 1, 0, none⟩) 1 1) w1 ∧ Below (w.heap.size + 1) w1 w1 from ⟨hown, Below.refl _ _⟩)
  have HC1 := Lib.hid (fun j hj => cell_later hb1 (HC.out j hj))
  have HB1 := Lib.hid hb1
  rw [← hw1]
  clear hw1 hown hb1
  go_wp2_with fail
  go_loopw [5, 6, 23] (fun v5 v6 i wr => ∃ k : Nat, k ≤ n ∧ i = .int .i64 k ∧ v6 = .bool (lastB z k) ∧ Hid (RnSt z (w.heap.size + 1) k v5 wr ∧ Below (w.heap.size + 1) w1 wr)) (fun _ _ i _ => n - (intOf i).toNat)
  case atStart => exact ⟨0, Nat.zero_le _, rfl, rfl, HS⟩
  case round =>
    obtain ⟨k, hk, rfl, rfl, HR⟩ := hrel
    by_cases hlt : k < n
    · obtain ⟨h1, h2⟩ := HR.out
      have hpx := (h2.cell (p := ⟨g, o + k, none⟩) (by simp; omega)).trans (HC1.out k hlt)
      have i1 : (k : Int) < (n : Int) := by omega
      obtain ⟨b1, b2, b3, b4, b5, b6, b7⟩ := rn_row z k
      have hst : rnS z (k + 1) = if z k = lastB z k then ((rnS z k).1, (rnS z k).2 + 1) else ((rnS z k).1 ++ [(rnS z k).2], 1) := rfl
      have HST := Lib.hid hst
      have hlb : lastB z (k + 1) = z k := rfl
      have HLB := Lib.hid hlb
      clear hst hlb b1 b2 b3 b4 b7
      unfold RnSt at h1
      obtain ⟨I, hI⟩ : ∃ I, I = (rnS z k).1 := ⟨_, rfl⟩
      obtain ⟨x, hx⟩ : ∃ x, x = (rnS z k).2 := ⟨_, rfl⟩
      obtain ⟨q, hq⟩ : ∃ q, q = z k := ⟨_, rfl⟩
      obtain ⟨lb, hlb⟩ : ∃ lb, lb = lastB z k := ⟨_, rfl⟩
      rw [← hq] at hpx
      rw [← hI, ← hx] at h1
      rw [← hI] at b5
      rw [← hx] at b6
      rw [← hlb]
      obtain ⟨sg, sc, rfl⟩ := owns_slice h1 (by omega)
      by_cases e : q = lb
      · have E := Lib.hid (show rnS z (k + 1) = (I, x + 1) by rw [HST.out, if_pos (by rw [← hq, ← hlb]; exact e), hI, hx])
        have hcell := rn_last h1
        have hfz := h1.frozenAt I.length
        have hge := (h1.lt sg rfl).1
        have H1 := Lib.hid (rn_longer h1)
        have H2 := Lib.hid h2
        have E2 := Lib.hid (show lastB z (k + 1) = lb by rw [HLB.out, ← hq]; exact e)
        clear h1 h2 HR HST HLB hI hx hq hlb
        subst e
        cases q <;> (
          go_wp2_with fail
          go_roundw
          case rel => exact ⟨k + 1, by omega, by go_num, by rw [E2.out], Lib.hid ⟨by unfold RnSt; rw [E.out]; exact H1.out, H2.out.setCell hge _⟩⟩
          case measure => simp [intOf]; omega)
      · have E := Lib.hid (show rnS z (k + 1) = (I ++ [x], 1) by rw [HST.out, if_neg (by rw [← hq, ← hlb]; exact e), hI, hx])
        have H1 := Lib.hid h1
        have H2 := Lib.hid h2
        have hq2 : q = !lb := by revert e; cases q <;> cases lb <;> simp
        have E2 := Lib.hid (show lastB z (k + 1) = !lb by rw [HLB.out, ← hq]; exact hq2)
        clear h1 h2 HR HST HLB hI hx hq hlb e
        subst hq2
        cases lb <;> (
          go_wp2_with (at_builtin; refine wpList_append_own _ rfl _ _ 23 rfl (w.heap.size + 1) 3 i0 (.int .i64 0) 1 8 Try.underlying23 hi hz0 hz1 hz2 rfl (by decide) _ _ _ rfl (H1.out.alloc _) ⟨wr.heap.size, 0, none⟩ 1 1 [.int .i64 0] rfl rfl ?c1 ?c2 ?c3 ?c4 ?c5 ?_)
          case c1 => exact cell_one_new _ _ _
          case c2 => intro u hu; simp at hu; subst hu; rfl
          case c3 => unfold maxLen; omega
          case c4 => omega
          case c5 => have := H2.out.size; simp; omega
          intro v' w5 hown5 hgr5 _
          obtain ⟨ng, nc, rfl⟩ := owns_slice hown5 (by omega)
          have hN : w.heap.size + 1 ≤ (wr.alloc (.cells #[.int .i64 0] 3)).heap.size := by have := H2.out.size; simp; omega
          have hb5 : Below (w.heap.size + 1) w1 w5 := (H2.out.alloc (by have := H2.out.size; omega) (.cells #[.int .i64 0] 3)).grown hgr5 hN (fun j hj => (H1.out.lt j hj).1)
          have hown6 : w5.ownsRow (w.heap.size + 1) 3 1 (.slice (some ⟨ng, 0, none⟩) ((I ++ [x]).length + 1) nc) ((I ++ [x]).length + 1) (natsV ((I ++ [x]) ++ [0])) := by
            rw [← natsV_snoc]
            simpa using hown5
          have hcell := rn_last hown6
          have hfz := hown6.frozenAt (I ++ [x]).length
          have hge := (hown6.lt ng rfl).1
          have H6 := Lib.hid (rn_longer hown6)
          have H7 := Lib.hid hb5
          simp only [List.length_append, List.length_singleton] at hcell hfz H6
          clear hown5 hgr5 hown6 hb5
          go_wp2_with fail
          go_roundw
          case rel => exact ⟨k + 1, by omega, by go_num, by rw [E2.out]; rfl, Lib.hid ⟨by unfold RnSt; rw [E.out]; simp only [List.length_append, List.length_singleton]; exact H6.out, H7.out.setCell hge _⟩⟩
          case measure => simp [intOf]; omega)
    · obtain rfl : k = n := by omega
      go_wp2_with fail
      go_ret
      have hr : runsL z k = (rnS z k).1 ++ [(rnS z k).2] := by unfold runsL rnL; rw [if_neg (by omega)]
      refine ⟨_, rfl, ?_, HB1.out.trans (HR.out.2.mono (by omega))⟩
      rw [hr, List.length_append, List.length_singleton]
      exact owns_base HR.out.1 (by omega)

end Go.Proofs.Ytbfnplagidhaeaa
namespace Go.Proofs.Ytbfnplagidhaeaa
open Go.RowKit
set_option linter.unusedSimpArgs false
set_option linter.unusedVariables false

theorem runsR_zero (s : Option Addr) (c : Nat) (w : World) : Calls Try.prog 8 #[.slice s 0 c] w fun e w' => e = .returned (.slice none 0 0) ∧ Below w.heap.size w w' := by
  go_enter Try.func8, Try.ntmps8
  go_wp2_with fail
  go_loopw [3, 4, 9] (fun v3 v4 i wr => v3 = .slice none 0 0 ∧ i = .int .i64 0 ∧ wr = w) (fun _ _ i _ => 0)
  case atStart => exact ⟨rfl, rfl, rfl⟩
  case round =>
    obtain ⟨rfl, rfl, rfl⟩ := hrel
    go_wp2_with fail
    go_ret
    exact ⟨rfl, Below.refl _ _⟩

set_option maxHeartbeats 1000000 in
set_option maxRecDepth 100000 in
theorem runsR_row (n g o c : Nat) (z : Nat → Bool) (w : World) (hn : 1 ≤ n ∧ n ≤ 4000) (hp : ∀ j, j < n → w.cell? ⟨g, o + j, none⟩ = some (.bool (z j))) :
    Calls Try.prog 8 #[.slice (some ⟨g, o, none⟩) n c] w fun e w' => ∃ v, e = .returned v ∧ w'.ownsRow w.heap.size 3 1 v (runsL z n).length (natsV (runsL z n)) ∧ Below w.heap.size w w' := by
  obtain ⟨i0, hi, hz0, hz1, hz2⟩ := info_parts info_int
  have hcl := World.block_lt_of_cell? _ _ (hp 0 (by omega))
  simp only at hcl
  have HC1 := Lib.hid hp
  clear hp
  go_enter Try.func8, Try.ntmps8
  go_wp2_with fail
  go_loopw [3, 4, 9] (fun v3 v4 i wr => ∃ k : Nat, k ≤ n ∧ i = .int .i64 k ∧ v4 = .bool (lastB z k) ∧ Hid (((k = 0 ∧ v3 = .slice none 0 0) ∨ (1 ≤ k ∧ RnSt z w.heap.size k v3 wr)) ∧ Below w.heap.size w wr)) (fun _ _ i _ => n - (intOf i).toNat)
  case atStart => exact ⟨0, Nat.zero_le _, rfl, rfl, Lib.hid ⟨.inl ⟨rfl, rfl⟩, Below.refl _ _⟩⟩
  case round =>
    obtain ⟨k, hk, rfl, rfl, HR⟩ := hrel
    by_cases hlt : k < n
    · have hpx0 := (HR.out.2.cell (p := ⟨g, o + k, none⟩) hcl).trans (HC1.out k hlt)
      have i1 : (k : Int) < (n : Int) := by omega
      obtain ⟨q0, hq0⟩ : ∃ q0, q0 = z k := ⟨_, rfl⟩
      rw [← hq0] at hpx0
      have HQ0 := Lib.hid hq0
      obtain ⟨wo, rfl⟩ : ∃ wo : World, wo = wr := ⟨_, rfl⟩
      clear hq0
      go_upto_if 15 with (fail)
      go_cut [3] from 15 to 17 (fun v3 wx => Hid (RnSt z w.heap.size k v3 wx ∧ Below w.heap.size w wx))
      case first =>
        rcases HR.out.1 with ⟨rfl, rfl⟩ | ⟨hk1, hst⟩
        · have P := Lib.hid (show RnSt z w.heap.size 0 (.slice (some ⟨wo.heap.size, 0, none⟩) 1 1) (wo.alloc (.cells #[.int .i64 0] 3)) ∧ Below w.heap.size w (wo.alloc (.cells #[.int .i64 0] 3)) from
            ⟨by
              have := World.ownsRow_lit (base := w.heap.size) (e := 3) (size := 1) wo #[.int .i64 0] 1 HR.out.2.size (by decide) rfl
              exact this, HR.out.2.alloc HR.out.2.size _⟩)
          clear HR hpx0
          go_wp2_with fail
          go_meet
          case rel => exact P
        · have P := Lib.hid (show _ ∧ _ from ⟨hst, HR.out.2⟩)
          have hk2 : ¬ ((k : Int) = 0) := by omega
          clear HR hpx0 hst
          go_wp2_with fail
          go_meet
          case rel => exact P
      case rest =>
        obtain ⟨w7, rfl⟩ : ∃ w7 : World, w7 = wc := ⟨_, rfl⟩
        obtain ⟨h1, h2⟩ := hcut.out
        clear hcut HR hpx0
        have hq1 := HQ0.out
        obtain ⟨b1, b2, b3, b4, b5, b6, b7⟩ := rn_row z k
        have hst : rnS z (k + 1) = if z k = lastB z k then ((rnS z k).1, (rnS z k).2 + 1) else ((rnS z k).1 ++ [(rnS z k).2], 1) := rfl
        have HST := Lib.hid hst
        have hlb : lastB z (k + 1) = z k := rfl
        have HLB := Lib.hid hlb
        clear hst hlb b1 b2 b3 b4 b7
        unfold RnSt at h1
        obtain ⟨I, hI⟩ : ∃ I, I = (rnS z k).1 := ⟨_, rfl⟩
        obtain ⟨x, hx⟩ : ∃ x, x = (rnS z k).2 := ⟨_, rfl⟩
        obtain ⟨q, hq⟩ : ∃ q, q = q0 := ⟨_, rfl⟩
        obtain ⟨lb, hlb⟩ : ∃ lb, lb = lastB z k := ⟨_, rfl⟩
        subst hq
        have hq := hq1
        clear hq1
        rw [← hI, ← hx] at h1
        rw [← hI] at b5
        rw [← hx] at b6
        rw [← hlb]
        obtain ⟨sg, sc, rfl⟩ := owns_slice h1 (by omega)
        by_cases e : q = lb
        · have E := Lib.hid (show rnS z (k + 1) = (I, x + 1) by rw [HST.out, if_pos (by rw [← hq, ← hlb]; exact e), hI, hx])
          have hcell := rn_last h1
          have hfz := h1.frozenAt I.length
          have hge := (h1.lt sg rfl).1
          have H1 := Lib.hid (rn_longer h1)
          have H2 := Lib.hid h2
          have E2 := Lib.hid (show lastB z (k + 1) = lb by rw [HLB.out, ← hq]; exact e)
          clear h1 h2 HST HLB hI hx hq hlb
          subst e
          cases q <;> (
            go_wp2_with fail
            go_roundw
            case rel => exact ⟨k + 1, by omega, by go_num, by rw [E2.out], Lib.hid ⟨.inr ⟨by omega, by unfold RnSt; rw [E.out]; exact H1.out⟩, H2.out.setCell hge _⟩⟩
            case measure => simp [intOf]; omega)
        · have E := Lib.hid (show rnS z (k + 1) = (I ++ [x], 1) by rw [HST.out, if_neg (by rw [← hq, ← hlb]; exact e), hI, hx])
          have H1 := Lib.hid h1
          have H2 := Lib.hid h2
          have hq2 : q = !lb := by revert e; cases q <;> cases lb <;> simp
          have E2 := Lib.hid (show lastB z (k + 1) = !lb by rw [HLB.out, ← hq]; exact hq2)
          clear h1 h2 HST HLB hI hx hq hlb e
          subst hq2
          cases lb <;> (
            go_wp2_with (at_builtin; refine wpList_append_own _ rfl _ _ 23 rfl w.heap.size 3 i0 (.int .i64 0) 1 8 Try.underlying23 hi hz0 hz1 hz2 rfl (by decide) _ _ _ rfl (H1.out.alloc _) ⟨w7.heap.size, 0, none⟩ 1 1 [.int .i64 0] rfl rfl ?c1 ?c2 ?c3 ?c4 ?c5 ?_)
            case c1 => exact cell_one_new _ _ _
            case c2 => intro u hu; simp at hu; subst hu; rfl
            case c3 => unfold maxLen; omega
            case c4 => omega
            case c5 => have := H2.out.size; simp; omega
            intro v' w5 hown5 hgr5 _
            obtain ⟨ng, nc, rfl⟩ := owns_slice hown5 (by omega)
            have hN : w.heap.size ≤ (w7.alloc (.cells #[.int .i64 0] 3)).heap.size := by have := H2.out.size; simp; omega
            have hb5 : Below w.heap.size w w5 := (H2.out.alloc (by have := H2.out.size; omega) (.cells #[.int .i64 0] 3)).grown hgr5 hN (fun j hj => (H1.out.lt j hj).1)
            have hown6 : w5.ownsRow w.heap.size 3 1 (.slice (some ⟨ng, 0, none⟩) ((I ++ [x]).length + 1) nc) ((I ++ [x]).length + 1) (natsV ((I ++ [x]) ++ [0])) := by
              rw [← natsV_snoc]
              simpa using hown5
            have hcell := rn_last hown6
            have hfz := hown6.frozenAt (I ++ [x]).length
            have hge := (hown6.lt ng rfl).1
            have H6 := Lib.hid (rn_longer hown6)
            have H7 := Lib.hid hb5
            simp only [List.length_append, List.length_singleton] at hcell hfz H6
            clear hown5 hgr5 hown6 hb5
            go_wp2_with fail
            go_roundw
            case rel => exact ⟨k + 1, by omega, by go_num, by rw [E2.out]; rfl, Lib.hid ⟨.inr ⟨by omega, by unfold RnSt; rw [E.out]; simp only [List.length_append, List.length_singleton]; exact H6.out⟩, H7.out.setCell hge _⟩⟩
            case measure => simp [intOf]; omega)
    · obtain rfl : k = n := by omega
      go_wp2_with fail
      go_ret
      have hr : runsL z k = (rnS z k).1 ++ [(rnS z k).2] := by unfold runsL rnL; rw [if_neg (by omega)]
      rcases HR.out.1 with ⟨h0, _⟩ | ⟨_, hst⟩
      · omega
      · refine ⟨_, rfl, ?_, HR.out.2⟩
        rw [hr, List.length_append, List.length_singleton]
        exact hst

end Go.Proofs.Ytbfnplagidhaeaa
namespace Go.Proofs.Ytbfnplagidhaeaa
open Go.RowKit
set_option linter.unusedSimpArgs false
set_option linter.unusedVariables false

theorem row_size (n : Nat) (h : 1 ≤ n ∧ n ≤ 4000) : pageErr (n : Int) 1 n = 0 := by
  have hs : sizeErr (n : Int) 1 = 0 := by unfold sizeErr; simp; omega
  unfold pageErr
  rw [if_pos hs, if_pos (by omega)]

theorem barRuns_row (n g o c : Nat) (z : Nat → Bool) (w : World) (hn : 1 ≤ n ∧ n ≤ 4000) (hnc : n ≤ c) (hp : ∀ j, j < n → w.cell? ⟨g, o + j, none⟩ = some (.bool (z j))) :
    Calls Try.prog 12 #[.agg #[.int .i64 n, .int .i64 1, .slice (some ⟨g, o, none⟩) n c], .int .i64 0] w fun e w' => ∃ v, e = .returned (.tuple #[v, .int .i64 0]) ∧ w'.ownsRow w.heap.size 3 1 v (runsL z n).length (natsV (runsL z n)) ∧ Below w.heap.size w w' := by
  have hpe := row_size n hn
  obtain ⟨w1, hw1⟩ : ∃ w1, w1 = (w.alloc (.cells #[.int .i64 n, .int .i64 1, .slice (some ⟨g, o, none⟩) n c] 37)).alloc (.cells #[.int .i64 n, .int .i64 1, .slice (some ⟨g, o, none⟩) n c] 37) := ⟨_, rfl⟩
  have hb1 : Below w.heap.size w w1 := by rw [hw1]; exact below_alloc (new_below _ _) _
  have HB := Lib.hid hb1
  have HR := Lib.hid (runsOf_row n g o c z w1 hn hnc (fun j hj => cell_later hb1 (hp j hj)))
  clear hp
  rw [hw1] at HR
  go_enter Try.func12, Try.ntmps12
  go_wp2_with (first | (go_at_call 16; refine (checkBits_any _ _ _ _ _ _).mono ?_; rintro e w' ⟨rfl, rfl⟩) | (go_at_call 13; refine (outside_no 0 0 _ _ (by omega)).mono ?_; rintro e w' ⟨rfl, rfl⟩) | (go_at_call 17; refine HR.out.mono ?_; rintro e w2 ⟨v, rfl, hown, hbel⟩))
  rw [← hw1] at hown hbel
  have HO := Lib.hid (owns_base hown hb1.size)
  have HE := Lib.hid (below_step hb1 hbel)
  clear hown hbel hw1
  go_wp2_with fail
  go_ret2
  exact ⟨_, rfl, HO.out, HE.out⟩

theorem runs_long (s : Option Addr) (n c : Nat) (w : World) (h : 4000 < n) : Calls Try.prog 5 #[.slice s n c] w fun e w' => e = .returned (.tuple #[.slice none 0 0, .int .i64 4]) ∧ Below w.heap.size w w' := by
  have i1 : (4000 : Int) < (n : Int) := by omega
  go_enter Try.func5, Try.ntmps5
  go_wp2_with fail
  go_ret2
  exact ⟨rfl, Below.refl _ _⟩
theorem runs_ok (s : Option Addr) (n c : Nat) (z : Nat → Bool) (w : World) (h : n ≤ 4000) (hnc : n ≤ c) (hs : IsBools w s n c z) : Calls Try.prog 5 #[.slice s n c] w fun e w' =>
    ∃ v, e = .returned (.tuple #[v, .int .i64 0]) ∧ w'.ownsRow w.heap.size 3 1 v (runsL z n).length (natsV (runsL z n)) ∧ Below w.heap.size w w' := by
  by_cases h0 : n = 0
  · subst h0
    go_enter Try.func5, Try.ntmps5
    go_wp2_with fail
    go_ret2
    exact ⟨_, rfl, World.ownsRow_nil _ _ _ _, Below.refl _ _⟩
  · obtain ⟨g, o, rfl, hc⟩ := isBools_cells hs (by omega)
    have HR := Lib.hid (barRuns_row n g o c z w (by omega) hnc hc)
    have i1 : ¬ ((4000 : Int) < (n : Int)) := by omega
    have i2 : ¬ ((n : Int) = 0) := by omega
    clear hs hc
    go_enter Try.func5, Try.ntmps5
    go_wp2_with (go_at_call 12; refine HR.out.mono ?_; rintro e w2 ⟨v, rfl, hown, hbel⟩)
    have HO := Lib.hid hown
    have HE := Lib.hid hbel
    clear hown hbel
    go_wp2_with fail
    go_ret2
    exact ⟨_, rfl, HO.out, HE.out⟩

/-- A slice of numbers that came in: none; or its cells hold what L tells. -/
def IsNums (w : World) (a : Option Addr) (len cap : Nat) (L : Nat → Int) : Prop :=
  len = 0 ∨ ∃ g o, a = some ⟨g, o, none⟩ ∧ g < w.heap.size ∧ ∀ i, i < len → w.cell? ⟨g, o + i, none⟩ = some (.int .i64 (L i))

theorem IsNums.later {w w' : World} {a : Option Addr} {len cap : Nat} {L : Nat → Int} (h : IsNums w a len cap L) (hb : Below w.heap.size w w') : IsNums w' a len cap L := by
  rcases h with h | ⟨g, o, h1, h2, h3⟩
  · exact .inl h
  · exact .inr ⟨g, o, h1, Nat.lt_of_lt_of_le h2 hb.size, fun i hi => cell_later hb (h3 i hi)⟩

def boolsV (l : List Bool) : List Value := l.map Value.bool
theorem boolsV_snoc (l : List Bool) (b : Bool) : boolsV l ++ [.bool b] = boolsV (l ++ [b]) := by simp [boolsV]
end Go.Proofs.Ytbfnplagidhaeaa
namespace Go.Proofs.Ytbfnplagidhaeaa
open Go.RowKit
set_option linter.unusedSimpArgs false
set_option linter.unusedVariables false

theorem from_long (s : Option Addr) (m c : Nat) (x : Int) (w : World) (h : 4000 < x) : Calls Try.prog 6 #[.slice s m c, .int .i64 x] w fun e w' => e = .returned (.tuple #[.slice none 0 0, .int .i64 4]) ∧ Below w.heap.size w w' := by
  go_enter Try.func6, Try.ntmps6
  go_wp2_with fail
  go_ret2
  exact ⟨rfl, Below.refl _ _⟩
theorem from_neg (s : Option Addr) (m c : Nat) (x : Int) (w : World) (h : x < 0) : Calls Try.prog 6 #[.slice s m c, .int .i64 x] w fun e w' => e = .returned (.tuple #[.slice none 0 0, .int .i64 3]) ∧ Below w.heap.size w w' := by
  have h1 : ¬ 4000 < x := by omega
  go_enter Try.func6, Try.ntmps6
  go_wp2_with fail
  go_ret2
  exact ⟨rfl, Below.refl _ _⟩

theorem owns_shape {w : World} {N : Nat} {e : TypeId} {v : Value} {n : Nat} {xs : List Value} (h : w.ownsRow N e 1 v n xs) : ∃ a c, v = .slice a n c := by
  rcases h.2 with ⟨h0, h1⟩ | ⟨g, cap, cur, h0, _⟩
  · subst h1; exact ⟨none, 0, h0⟩
  · exact ⟨some ⟨g, 0, none⟩, cap, h0⟩

set_option maxHeartbeats 1000000 in
set_option maxRecDepth 100000 in
theorem from_mid (s : Option Addr) (m c W : Nat) (L : Nat → Int) (w : World) (hW : W ≤ 4000) (hmx : m ≤ 9223372036854775807) (hs : IsNums w s m c L) :
    Calls Try.prog 6 #[.slice s m c, .int .i64 (W : Int)] w fun e w' => ∃ v, e = .returned (.tuple #[v, .int .i64 (frErr L m W)]) ∧ w'.ownsRow w.heap.size 4 1 v (frOut L m W).length (boolsV (frOut L m W)) ∧ Below w.heap.size w w' := by
  obtain ⟨i0, hi, hz0, hz1, hz2⟩ := info_parts info_bool
  have h1 : ¬ ((W : Int) > 4000) := by omega
  have h2 : ¬ ((W : Int) < 0) := by omega
  have HS := Lib.hid hs
  clear hs
  go_enter Try.func6, Try.ntmps6
  go_wp2_with (at_make; refine wpList_make_own _ rfl _ _ 22 rfl w.heap.size 4 i0 (.bool false) 1 Try.underlying22 hi hz0 hz1 _ _ _ W rfl rfl rfl (by rw [hz2]; omega) (by unfold maxLen; omega) (Nat.le_refl _) ?_)
  intro w1 hown1 hgrow1
  have hb1 : Below w.heap.size w w1 := (Below.refl _ _).grown hgrow1 (Nat.le_refl _) (by simp)
  have P0 := Lib.hid (show w1.ownsRow w.heap.size 4 1 (.slice (some ⟨w.heap.size, 0, none⟩) 0 W) (frRow L 0).length (boolsV (frRow L 0)) ∧ Below w.heap.size w w1 from ⟨hown1, hb1⟩)
  clear hgrow1 hown1 hb1
  go_wp2_with fail
  go_loopw [6, 18] (fun v i wr => ∃ k : Nat, k ≤ m ∧ i = .int .i64 k ∧ Hid (frGood L W k ∧ wr.ownsRow w.heap.size 4 1 v (frRow L k).length (boolsV (frRow L k)) ∧ Below w.heap.size w wr)) (fun _ i _ => m - (intOf i).toNat)
  case atStart => exact ⟨0, Nat.zero_le _, rfl, Lib.hid ⟨fun j hj => by simp at hj, P0.out⟩⟩
  case round =>
    obtain ⟨k, hk, rfl, HR⟩ := hrel
    obtain ⟨wo, rfl⟩ : ∃ wo : World, wo = wr := ⟨_, rfl⟩
    by_cases hlt : k < m
    · rcases HS.out with h0 | ⟨g, o, rfl, hg, hc⟩
      · omega
      have hpx := (HR.out.2.2.cell (p := ⟨g, o + k, none⟩) hg).trans (hc k hlt)
      have i1 : (k : Int) < (m : Int) := by omega
      obtain ⟨x, hx⟩ : ∃ x, x = L k := ⟨_, rfl⟩
      obtain ⟨t, ht⟩ : ∃ t, t = (frRow L k).length := ⟨_, rfl⟩
      rw [← hx] at hpx
      have hle := frRow_le HR.out.1
      rw [← ht] at hle
      have HX := Lib.hid hx
      have HT := Lib.hid ht
      have hown := HR.out.2.1
      rw [← ht] at hown
      have HO := Lib.hid hown
      have hmin : min (k : Int) 1 = ((min k 1 : Nat) : Int) := by omega
      clear hx ht hown hc P0
      by_cases hgd : ((min k 1 : Nat) : Int) ≤ x ∧ x ≤ (W : Int) - (t : Nat)
      · have hgs := Lib.hid (frGood_succ HR.out.1 (by rw [← HX.out]; exact hgd.1) (by rw [← HX.out, ← HT.out]; exact hgd.2))
        obtain ⟨X, rfl⟩ := Int.eq_ofNat_of_zero_le (show 0 ≤ x by have := hgd.1; omega)
        obtain ⟨b, hb⟩ : ∃ b, b = decide (k % 2 = 1) := ⟨_, rfl⟩
        have hm : (k : Int).tmod 2 = ((k % 2 : Nat) : Int) := by rw [Int.tmod_eq_emod_of_nonneg (by omega)]; omega
        have HBK := Lib.hid (show ((k : Int) % 2 == 1) = b by rw [hb, show (k : Int) % 2 = ((k % 2 : Nat) : Int) by omega]; by_cases e : k % 2 = 1 <;> simp [e]; omega)
        have HBV := Lib.hid (show b = decide (k % 2 = 1) from hb)
        obtain ⟨va, vc, rfl⟩ := owns_shape HO.out
        have HR3 := Lib.hid HR.out.2.2
        clear hb HR
        by_cases hmk : (1 : Int) < (k : Int) <;> (
          go_wp2_with (first | (go_at_call 13; refine (outside_no _ _ _ _ (by omega)).mono ?_; rintro e w' ⟨rfl, rfl⟩))
          go_loopw [6, 33] (fun v i wi => ∃ j : Nat, j ≤ X ∧ i = .int .i64 j ∧ Hid (wi.ownsRow w.heap.size 4 1 v (t + j) (boolsV (frRow L k ++ List.replicate j b)) ∧ Below w.heap.size w wi)) (fun _ i _ => X - (intOf i).toNat)
          case atStart => exact ⟨0, Nat.zero_le _, rfl, Lib.hid ⟨by simpa using HO.out, HR3.out⟩⟩
          case round =>
            obtain ⟨j, hj, rfl, HI⟩ := hrel
            by_cases hlj : j < X
            · have i2 : (j : Int) < (X : Int) := by omega
              go_wp2_with (at_builtin; refine wpList_append_own _ rfl _ _ 22 rfl w.heap.size 4 i0 (.bool false) 1 1 Try.underlying22 hi hz0 hz1 hz2 rfl (by decide) _ _ _ rfl (HI.out.1.alloc _) ⟨wr.heap.size, 0, none⟩ 1 1 [.bool ((k : Int) % 2 == 1)] rfl rfl ?c1 ?c2 ?c3 ?c4 ?c5 ?_)
              case c1 => exact cell_one_new _ _ _
              case c2 => intro u hu; simp at hu; subst hu; rfl
              case c3 => unfold maxLen; omega
              case c4 => omega
              case c5 => have := HI.out.2.size; simp; omega
              intro v' w5 hown5 hgr5 _
              have hN : w.heap.size ≤ (wr.alloc (.cells #[.bool ((k : Int) % 2 == 1)] 4)).heap.size := by have := HI.out.2.size; simp; omega
              have hb5 : Below w.heap.size w w5 := (HI.out.2.alloc HI.out.2.size (.cells #[.bool ((k : Int) % 2 == 1)] 4)).grown hgr5 hN (fun q hq => (HI.out.1.lt q hq).1)
              have H5 := Lib.hid (show w5.ownsRow w.heap.size 4 1 v' (t + (j + 1)) (boolsV (frRow L k ++ List.replicate (j + 1) b)) by
                rw [HBK.out] at hown5
                rw [List.replicate_succ', ← List.append_assoc, ← boolsV_snoc]
                exact hown5)
              have B5 := Lib.hid hb5
              clear hown5 hgr5 hb5 hN HI
              go_wp2_with fail
              go_roundw
              case rel => exact ⟨j + 1, by omega, by go_num, Lib.hid ⟨H5.out, B5.out⟩⟩
              case measure => simp [intOf]; omega
            · obtain rfl : j = X := by omega
              go_wp2_with fail
              go_roundw
              case rel => exact ⟨k + 1, by omega, by go_num, Lib.hid ⟨hgs.out, by rw [frRow, ← HBV.out, ← HX.out, List.length_append, List.length_replicate, ← HT.out]; exact HI.out.1, HI.out.2⟩⟩
              case measure => simp [intOf]; omega)
      · have HE := Lib.hid (frErr_bad (L := L) (m := m) (w := (W : Int)) (by omega) (by omega) hlt (show ¬ (((min k 1 : Nat) : Int) ≤ L k ∧ L k ≤ ((W : Int).toNat : Int) - ((frRow L k).length : Nat)) by rw [← HX.out, ← HT.out]; exact hgd))
        obtain ⟨va, vc, rfl⟩ := owns_shape HO.out
        have HR3 := Lib.hid HR.out.2.2
        clear HR
        by_cases hmk : (1 : Int) < (k : Int) <;> (
          go_wp2_with (first | (go_at_call 13; refine (outside_yes _ _ _ _ (by omega)).mono ?_; rintro e w' ⟨rfl, rfl⟩))
          go_ret2
          rw [HE.out]
          refine ⟨_, rfl, ?_, HR3.out⟩
          unfold frOut
          rw [if_neg (by rw [HE.out]; decide)]
          exact World.ownsRow_nil _ _ _ _)
    · obtain rfl : k = m := by omega
      obtain ⟨hg, hown, hbel⟩ := HR.out
      have hle := frRow_le hg
      obtain ⟨va, vc, rfl⟩ := owns_shape hown
      have HO := Lib.hid hown
      have HB := Lib.hid hbel
      by_cases hl : (frRow L k).length = W
      · have HE := Lib.hid (frErr_ok (L := L) (m := k) (w := (W : Int)) (by omega) (by omega) (by simpa using hg) (by simpa using hl))
        have i3 : ¬ (((frRow L k).length : Int) < (W : Int)) := by omega
        clear hg hown hbel HR hl
        go_wp2_with fail
        go_ret2
        rw [HE.out]
        refine ⟨_, rfl, ?_, HB.out⟩
        unfold frOut
        rw [if_pos HE.out]
        exact HO.out
      · have HE := Lib.hid (frErr_long (L := L) (m := k) (w := (W : Int)) (by omega) (by omega) (by simpa using hl))
        have i3 : ((frRow L k).length : Int) < (W : Int) := by omega
        clear hg hown hbel HR hl
        go_wp2_with fail
        go_ret2
        rw [HE.out]
        refine ⟨_, rfl, ?_, HB.out⟩
        unfold frOut
        rw [if_neg (by rw [HE.out]; decide)]
        exact World.ownsRow_nil _ _ _ _

end Go.Proofs.Ytbfnplagidhaeaa
namespace Go.Proofs.Ytbfnplagidhaeaa
open Go.RowKit
set_option linter.unusedSimpArgs false
set_option linter.unusedVariables false

theorem fromR_long (s : Option Addr) (m c : Nat) (x : Int) (w : World) (h : 4000 < x) : Calls Try.prog 10 #[.slice s m c, .int .i64 x] w fun e w' => e = .returned (.tuple #[.slice none 0 0, .int .i64 4]) ∧ Below w.heap.size w w' := by
  go_enter Try.func10, Try.ntmps10
  go_wp2_with fail
  go_ret2
  exact ⟨rfl, Below.refl _ _⟩
theorem fromR_neg (s : Option Addr) (m c : Nat) (x : Int) (w : World) (h : x < 0) : Calls Try.prog 10 #[.slice s m c, .int .i64 x] w fun e w' => e = .returned (.tuple #[.slice none 0 0, .int .i64 3]) ∧ Below w.heap.size w w' := by
  have h1 : ¬ 4000 < x := by omega
  go_enter Try.func10, Try.ntmps10
  go_wp2_with fail
  go_ret2
  exact ⟨rfl, Below.refl _ _⟩

set_option maxHeartbeats 1000000 in
set_option maxRecDepth 100000 in
theorem fromR_mid (s : Option Addr) (m c W : Nat) (L : Nat → Int) (w : World) (hW : W ≤ 4000) (hmx : m ≤ 9223372036854775807) (hs : IsNums w s m c L) :
    Calls Try.prog 10 #[.slice s m c, .int .i64 (W : Int)] w fun e w' => ∃ v, e = .returned (.tuple #[v, .int .i64 (frErr L m W)]) ∧ w'.ownsRow w.heap.size 4 1 v (frOut L m W).length (boolsV (frOut L m W)) ∧ Below w.heap.size w w' := by
  obtain ⟨i0, hi, hz0, hz1, hz2⟩ := info_parts info_bool
  have h1 : ¬ ((W : Int) > 4000) := by omega
  have h2 : ¬ ((W : Int) < 0) := by omega
  have HS := Lib.hid hs
  clear hs
  go_enter Try.func10, Try.ntmps10
  have P0 := Lib.hid (show w.ownsRow w.heap.size 4 1 (.slice none 0 0) (frRow L 0).length (boolsV (frRow L 0)) ∧ Below w.heap.size w w from ⟨World.ownsRow_nil _ _ _ _, Below.refl _ _⟩)
  go_wp2_with fail
  go_loopw [6, 17] (fun v i wr => ∃ k : Nat, k ≤ m ∧ i = .int .i64 k ∧ Hid (frGood L W k ∧ wr.ownsRow w.heap.size 4 1 v (frRow L k).length (boolsV (frRow L k)) ∧ Below w.heap.size w wr)) (fun _ i _ => m - (intOf i).toNat)
  case atStart => exact ⟨0, Nat.zero_le _, rfl, Lib.hid ⟨fun j hj => by simp at hj, P0.out⟩⟩
  case round =>
    obtain ⟨k, hk, rfl, HR⟩ := hrel
    obtain ⟨wo, rfl⟩ : ∃ wo : World, wo = wr := ⟨_, rfl⟩
    by_cases hlt : k < m
    · rcases HS.out with h0 | ⟨g, o, rfl, hg, hc⟩
      · omega
      have hpx := (HR.out.2.2.cell (p := ⟨g, o + k, none⟩) hg).trans (hc k hlt)
      have i1 : (k : Int) < (m : Int) := by omega
      obtain ⟨x, hx⟩ : ∃ x, x = L k := ⟨_, rfl⟩
      obtain ⟨t, ht⟩ : ∃ t, t = (frRow L k).length := ⟨_, rfl⟩
      rw [← hx] at hpx
      have hle := frRow_le HR.out.1
      rw [← ht] at hle
      have HX := Lib.hid hx
      have HT := Lib.hid ht
      have hown := HR.out.2.1
      rw [← ht] at hown
      have HO := Lib.hid hown
      have hmin : min (k : Int) 1 = ((min k 1 : Nat) : Int) := by omega
      clear hx ht hown hc P0
      by_cases hgd : ((min k 1 : Nat) : Int) ≤ x ∧ x ≤ (W : Int) - (t : Nat)
      · have hgs := Lib.hid (frGood_succ HR.out.1 (by rw [← HX.out]; exact hgd.1) (by rw [← HX.out, ← HT.out]; exact hgd.2))
        obtain ⟨X, rfl⟩ := Int.eq_ofNat_of_zero_le (show 0 ≤ x by have := hgd.1; omega)
        obtain ⟨b, hb⟩ : ∃ b, b = decide (k % 2 = 1) := ⟨_, rfl⟩
        have hm : (k : Int).tmod 2 = ((k % 2 : Nat) : Int) := by rw [Int.tmod_eq_emod_of_nonneg (by omega)]; omega
        have HBK := Lib.hid (show ((k : Int) % 2 == 1) = b by rw [hb, show (k : Int) % 2 = ((k % 2 : Nat) : Int) by omega]; by_cases e : k % 2 = 1 <;> simp [e]; omega)
        have HBV := Lib.hid (show b = decide (k % 2 = 1) from hb)
        obtain ⟨va, vc, rfl⟩ := owns_shape HO.out
        have HR3 := Lib.hid HR.out.2.2
        clear hb HR
        by_cases hk0 : (0 : Int) < (k : Int) <;> by_cases hx1 : (X : Int) < 1 <;> by_cases hx0 : (X : Int) < 0 <;> by_cases hx2 : (W : Int) - (t : Int) < (X : Int) <;> first | (exfalso; omega) | (
          go_wp2_with fail
          go_loopw [6, 41] (fun v i wi => ∃ j : Nat, j ≤ X ∧ i = .int .i64 j ∧ Hid (wi.ownsRow w.heap.size 4 1 v (t + j) (boolsV (frRow L k ++ List.replicate j b)) ∧ Below w.heap.size w wi)) (fun _ i _ => X - (intOf i).toNat)
          case atStart => exact ⟨0, Nat.zero_le _, rfl, Lib.hid ⟨by simpa using HO.out, HR3.out⟩⟩
          case round =>
            obtain ⟨j, hj, rfl, HI⟩ := hrel
            by_cases hlj : j < X
            · first | (exfalso; omega) | (
                have i2 : (j : Int) < (X : Int) := by omega
                go_wp2_with (at_builtin; refine wpList_append_own _ rfl _ _ 22 rfl w.heap.size 4 i0 (.bool false) 1 1 Try.underlying22 hi hz0 hz1 hz2 rfl (by decide) _ _ _ rfl (HI.out.1.alloc _) ⟨wr.heap.size, 0, none⟩ 1 1 [.bool ((k : Int) % 2 == 1)] rfl rfl ?c1 ?c2 ?c3 ?c4 ?c5 ?_)
                case c1 => exact cell_one_new _ _ _
                case c2 => intro u hu; simp at hu; subst hu; rfl
                case c3 => unfold maxLen; omega
                case c4 => omega
                case c5 => have := HI.out.2.size; simp; omega
                intro v' w5 hown5 hgr5 _
                have hN : w.heap.size ≤ (wr.alloc (.cells #[.bool ((k : Int) % 2 == 1)] 4)).heap.size := by have := HI.out.2.size; simp; omega
                have hb5 : Below w.heap.size w w5 := (HI.out.2.alloc HI.out.2.size (.cells #[.bool ((k : Int) % 2 == 1)] 4)).grown hgr5 hN (fun q hq => (HI.out.1.lt q hq).1)
                have H5 := Lib.hid (show w5.ownsRow w.heap.size 4 1 v' (t + (j + 1)) (boolsV (frRow L k ++ List.replicate (j + 1) b)) by
                  rw [HBK.out] at hown5
                  rw [List.replicate_succ', ← List.append_assoc, ← boolsV_snoc]
                  exact hown5)
                have B5 := Lib.hid hb5
                clear hown5 hgr5 hb5 hN HI
                go_wp2_with fail
                go_roundw
                case rel => exact ⟨j + 1, by omega, by go_num, Lib.hid ⟨H5.out, B5.out⟩⟩
                case measure => simp [intOf]; omega)
            · obtain rfl : j = X := by omega
              go_wp2_with fail
              go_roundw
              case rel => exact ⟨k + 1, by omega, by go_num, Lib.hid ⟨hgs.out, by rw [frRow, ← HBV.out, ← HX.out, List.length_append, List.length_replicate, ← HT.out]; exact HI.out.1, HI.out.2⟩⟩
              case measure => simp [intOf]; omega)
      · have HE := Lib.hid (frErr_bad (L := L) (m := m) (w := (W : Int)) (by omega) (by omega) hlt (show ¬ (((min k 1 : Nat) : Int) ≤ L k ∧ L k ≤ ((W : Int).toNat : Int) - ((frRow L k).length : Nat)) by rw [← HX.out, ← HT.out]; exact hgd))
        obtain ⟨va, vc, rfl⟩ := owns_shape HO.out
        have HR3 := Lib.hid HR.out.2.2
        clear HR
        by_cases hk0 : (0 : Int) < (k : Int) <;> by_cases hx1 : x < 1 <;> by_cases hx0 : x < 0 <;> by_cases hx2 : (W : Int) - (t : Int) < x <;> first | (exfalso; omega) | (
          go_wp2_with fail
          go_ret2
          rw [HE.out]
          refine ⟨_, rfl, ?_, HR3.out⟩
          unfold frOut
          rw [if_neg (by rw [HE.out]; decide)]
          exact World.ownsRow_nil _ _ _ _)
    · obtain rfl : k = m := by omega
      obtain ⟨hg, hown, hbel⟩ := HR.out
      have hle := frRow_le hg
      obtain ⟨va, vc, rfl⟩ := owns_shape hown
      have HO := Lib.hid hown
      have HB := Lib.hid hbel
      by_cases hl : (frRow L k).length = W
      · have HE := Lib.hid (frErr_ok (L := L) (m := k) (w := (W : Int)) (by omega) (by omega) (by simpa using hg) (by simpa using hl))
        have i3 : ((frRow L k).length : Int) = (W : Int) := by omega
        clear hg hown hbel HR hl
        go_wp2_with fail
        go_ret2
        rw [HE.out]
        refine ⟨_, rfl, ?_, HB.out⟩
        unfold frOut
        rw [if_pos HE.out]
        exact HO.out
      · have HE := Lib.hid (frErr_long (L := L) (m := k) (w := (W : Int)) (by omega) (by omega) (by simpa using hl))
        have i3 : ¬ (((frRow L k).length : Int) = (W : Int)) := by omega
        clear hg hown hbel HR hl
        go_wp2_with fail
        go_ret2
        rw [HE.out]
        refine ⟨_, rfl, ?_, HB.out⟩
        unfold frOut
        rw [if_neg (by rw [HE.out]; decide)]
        exact World.ownsRow_nil _ _ _ _

end Go.Proofs.Ytbfnplagidhaeaa
namespace Go.Proofs.Ytbfnplagidhaeaa
open Go.RowKit
set_option linter.unusedSimpArgs false
set_option linter.unusedVariables false

set_option maxRecDepth 100000 in
theorem equalInt_true (g1 o1 g2 o2 n c1 c2 : Nat) (z : Nat → Int) (w : World) (hn : n ≤ 100000000)
    (h1 : ∀ j, j < n → w.cell? ⟨g1, o1 + j, none⟩ = some (.int .i64 (z j))) (h2 : ∀ j, j < n → w.cell? ⟨g2, o2 + j, none⟩ = some (.int .i64 (z j))) :
    Calls Try.prog 7 #[.slice (some ⟨g1, o1, none⟩) n c1, .slice (some ⟨g2, o2, none⟩) n c2] w fun e w' => e = .returned (.bool true) ∧ ∃ q, w' = w.drewN q := by
  have H1 := Lib.hid h1
  have H2 := Lib.hid h2
  clear h1 h2
  go_enter Try.func7, Try.ntmps7
  go_wp2
  go_loopw [13] (fun i wr => ∃ k q : Nat, k ≤ n ∧ i = .int .i64 k ∧ wr = w.drewN q) (fun i _ => n - (intOf i).toNat)
  case atStart => exact ⟨0, 0, Nat.zero_le _, rfl, rfl⟩
  case round =>
    obtain ⟨k, q, hk, rfl, rfl⟩ := hrel
    by_cases hlt : k < n
    · have e1 := H1.out k hlt
      have e2 := H2.out k hlt
      generalize z k = x at e1 e2
      have i1 : (k : Int) < (n : Int) := by omega
      have i0 : (0 : Int) ≤ (k : Int) := by omega
      go_wp2
      go_quiet (fail)
      go_wp2
      go_roundw
      case rel => exact ⟨k + 1, _, by omega, by go_num, rfl⟩
      case measure => simp [intOf]; omega
    · go_wp2
      go_ret
      exact ⟨rfl, q, rfl⟩

end Go.Proofs.Ytbfnplagidhaeaa
namespace Go.Proofs.Ytbfnplagidhaeaa
open Go.RowKit
set_option linter.unusedSimpArgs false
set_option linter.unusedVariables false

set_option maxRecDepth 100000 in
theorem equalBool_true (g1 o1 g2 o2 n c1 c2 : Nat) (z : Nat → Bool) (w : World) (hn : n ≤ 100000000)
    (h1 : ∀ j, j < n → w.cell? ⟨g1, o1 + j, none⟩ = some (.bool (z j))) (h2 : ∀ j, j < n → w.cell? ⟨g2, o2 + j, none⟩ = some (.bool (z j))) :
    Calls Try.prog 9 #[.slice (some ⟨g1, o1, none⟩) n c1, .slice (some ⟨g2, o2, none⟩) n c2] w fun e w' => e = .returned (.bool true) ∧ ∃ q, w' = w.drewN q := by
  have H1 := Lib.hid h1
  have H2 := Lib.hid h2
  clear h1 h2
  go_enter Try.func9, Try.ntmps9
  go_wp2
  go_loopw [13] (fun i wr => ∃ k q : Nat, k ≤ n ∧ i = .int .i64 k ∧ wr = w.drewN q) (fun i _ => n - (intOf i).toNat)
  case atStart => exact ⟨0, 0, Nat.zero_le _, rfl, rfl⟩
  case round =>
    obtain ⟨k, q, hk, rfl, rfl⟩ := hrel
    by_cases hlt : k < n
    · have e1 := H1.out k hlt
      have e2 := H2.out k hlt
      generalize z k = x at e1 e2
      have i1 : (k : Int) < (n : Int) := by omega
      have i0 : (0 : Int) ≤ (k : Int) := by omega
      go_wp2
      go_quiet (fail)
      go_wp2
      go_roundw
      case rel => exact ⟨k + 1, _, by omega, by go_num, rfl⟩
      case measure => simp [intOf]; omega
    · go_wp2
      go_ret
      exact ⟨rfl, q, rfl⟩

end Go.Proofs.Ytbfnplagidhaeaa
