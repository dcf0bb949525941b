/-
  What boxes_holds leans on: contracts of the functions that it calls.
-/
import Derived.Test.YtljjbdfpegjmcaaRows
import Derived.WalkKit
import Derived.WalkSpells
import Derived.WalkLawsBesides
import Derived.Lib.Hide
import Derived.Deep.RegionHeld3
import Derived.Shelf.Abstract
import Derived.Deep.QuietTactic
import Derived.BigQuiet
import Derived.Deep.AppendLies
import Derived.Deep.DrawnRows
import Derived.Deep.RegionLaw
import Derived.ProofKit
import Derived.OpenShut
import Derived.ShutString
import Derived.ChangeOld
import Derived.Lib.SmallJoins
import Derived.Deep.Grids
import Derived.Deep.DeepCutAuto
import Derived.Lib.MinMax
import Derived.Laws.EntriesVeiled
import Derived.RegionTactic
import Derived.ChangeAlike
import Derived.BigRegion
import Derived.StillTailTactics
import Derived.Deep.OwnRows
import Derived.Test.YtljjbdfpegjmcaaCBoxes1
namespace Go.Proofs.Ytljjbdfpegjmcaa
open Go.RowKit
set_option linter.unusedSimpArgs false
set_option linter.unusedVariables false

def smB (c : Int) : Bool := decide (97 ≤ c ∧ c ≤ 122)
def dgB (c : Int) : Bool := decide (48 ≤ c ∧ c ≤ 57)

theorem isSmall_any (c : Int) (w : World) : Calls Try.prog 104 #[.int .u8 c] w fun e w' => e = .returned (.bool (smB c)) ∧ w = w' := by
  by_cases h1 : 97 ≤ c
  · by_cases h2 : c ≤ 122
    · have H := Lib.hid (show smB c = true from decide_eq_true ⟨h1, h2⟩)
      go_enter Try.func104, Try.ntmps104
      go_wp2
      go_ret
      exact ⟨ret_bool H.out.symm, rfl⟩
    · have H := Lib.hid (show smB c = false from decide_eq_false (fun k => h2 k.2))
      go_enter Try.func104, Try.ntmps104
      go_wp2
      go_ret
      exact ⟨ret_bool H.out.symm, rfl⟩
  · have H := Lib.hid (show smB c = false from decide_eq_false (fun k => h1 k.1))
    go_enter Try.func104, Try.ntmps104
    go_wp2
    go_ret
    exact ⟨ret_bool H.out.symm, rfl⟩

theorem isDigit_any (c : Int) (w : World) : Calls Try.prog 105 #[.int .u8 c] w fun e w' => e = .returned (.bool (dgB c)) ∧ w = w' := by
  by_cases h1 : 48 ≤ c
  · by_cases h2 : c ≤ 57
    · have H := Lib.hid (show dgB c = true from decide_eq_true ⟨h1, h2⟩)
      go_enter Try.func105, Try.ntmps105
      go_wp2
      go_ret
      exact ⟨ret_bool H.out.symm, rfl⟩
    · have H := Lib.hid (show dgB c = false from decide_eq_false (fun k => h2 k.2))
      go_enter Try.func105, Try.ntmps105
      go_wp2
      go_ret
      exact ⟨ret_bool H.out.symm, rfl⟩
  · have H := Lib.hid (show dgB c = false from decide_eq_false (fun k => h1 k.1))
    go_enter Try.func105, Try.ntmps105
    go_wp2
    go_ret
    exact ⟨ret_bool H.out.symm, rfl⟩

/-- The byte at a place, as a number. -/
def byteAt (s : ByteArray) (k : Nat) : Int := ((s.data.toList.getD k 0).toNat : Int)
theorem byteAt_get (s : ByteArray) (k : Nat) (h : k < s.size) : (s[k].toNat : Int) = byteAt s k := by
  unfold byteAt
  rw [List.getD_eq_getElem?_getD, List.getElem?_eq_getElem (by simpa using h)]
  rfl

def goodB (s : ByteArray) (k : Nat) : Bool := smB (byteAt s k) || (decide (k ≠ 0) && (dgB (byteAt s k) || decide (byteAt s k = 45)))
def NameP (s : ByteArray) : Prop := (1 ≤ s.size ∧ s.size ≤ 40) ∧ ∀ k, k < s.size → goodB s k = true

/-- It returns a bool that says whether P. -/
def SaysIf (P : Prop) (w : World) (e : Ending) (w' : World) : Prop := ∃ q, e = .returned (.bool q) ∧ (q = true ↔ P) ∧ w = w'
theorem says_no {P : Prop} {w : World} (h : ¬ P) : SaysIf P w (.returned (.bool false)) w := ⟨false, rfl, by simp [h], rfl⟩
theorem says_yes {P : Prop} {w : World} (h : P) : SaysIf P w (.returned (.bool true)) w := ⟨true, rfl, by simp [h], rfl⟩

theorem good_next {s : ByteArray} {k : Nat} (h : Hid (∀ j, j < k → goodB s j = true)) (hk : Hid (goodB s k = true)) : Hid (∀ j, j < k + 1 → goodB s j = true) :=
  Lib.hid fun j hj => by
    by_cases e : j = k
    · rw [e]; exact hk.out
    · exact h.out j (by omega)

set_option maxHeartbeats 400000 in
theorem isName_any (s : ByteArray) (w : World) (hs : s.size ≤ 9223372036854775807) : Calls Try.prog 47 #[.string s] w (SaysIf (NameP s) w) := by
  by_cases h1 : 1 ≤ s.size
  · by_cases h2 : s.size ≤ 40
    · have d1 : decide ((s.size : Int) < 1) = false := by simp; omega
      have d2 : decide ((40 : Int) < (s.size : Int)) = false := by simp; omega
      have hlt0 : 0 < s.size := by omega
      have E0 := Lib.hid (byteAt_get s 0 hlt0)
      by_cases hb : smB (s[0].toNat : Int) = true
      · have HB := Lib.hid (show smB (byteAt s 0) = true by rw [← E0.out]; exact hb)
        have H1 := Lib.hid h1
        have H2 := Lib.hid h2
        clear h1 h2
        go_enter Try.func47, Try.ntmps47
        go_wp2_with (first | (go_at_call 104; refine (isSmall_any _ _).mono ?_; rintro e w' ⟨rfl, rfl⟩) | (go_at_call 105; refine (isDigit_any _ _).mono ?_; rintro e w' ⟨rfl, rfl⟩))
        clear hb
        go_loop [21] (fun i => ∃ k : Nat, k ≤ s.size ∧ i = .int .i64 k ∧ Hid (∀ j, j < k → goodB s j = true)) (fun i => s.size - (intOf i).toNat)
        case atStart => exact ⟨0, Nat.zero_le _, rfl, fun j hj => by omega⟩
        case round =>
          obtain ⟨k, hk, rfl, hG⟩ := hrel
          by_cases hlt : k < s.size
          · have E := Lib.hid (byteAt_get s k hlt)
            by_cases a1 : smB (s[k].toNat : Int) = true
            · have hg := Lib.hid (show goodB s k = true by unfold goodB; rw [← E.out, a1]; rfl)
              go_wp2_with (first | (go_at_call 104; refine (isSmall_any _ _).mono ?_; rintro e w' ⟨rfl, rfl⟩) | (go_at_call 105; refine (isDigit_any _ _).mono ?_; rintro e w' ⟨rfl, rfl⟩))
              go_round
              case rel => exact ⟨k + 1, by omega, by go_num, good_next hG hg⟩
              case measure => simp [intOf]; omega
            · have a1' : smB (s[k].toNat : Int) = false := by simpa using a1
              have K0 := Lib.hid (show k ≠ 0 from fun e => a1 (by subst e; rw [E.out]; exact HB.out))
              clear a1
              by_cases a2 : dgB (s[k].toNat : Int) = true
              · have hg := Lib.hid (show goodB s k = true by unfold goodB; rw [← E.out, a1', a2]; simp [K0.out])
                go_wp2_with (first | (go_at_call 104; refine (isSmall_any _ _).mono ?_; rintro e w' ⟨rfl, rfl⟩) | (go_at_call 105; refine (isDigit_any _ _).mono ?_; rintro e w' ⟨rfl, rfl⟩))
                go_round
                case rel => exact ⟨k + 1, by omega, by go_num, good_next hG hg⟩
                case measure => simp [intOf]; omega
              · have a2' : dgB (s[k].toNat : Int) = false := by simpa using a2
                clear a2
                by_cases a3 : (s[k].toNat : Int) = 45
                · have a3' : ((s[k].toNat : Int) != 45) = false := by simpa using a3
                  have hg := Lib.hid (show goodB s k = true by unfold goodB; rw [← E.out, a1', a2']; simp [K0.out]; omega)
                  clear a3
                  go_wp2_with (first | (go_at_call 104; refine (isSmall_any _ _).mono ?_; rintro e w' ⟨rfl, rfl⟩) | (go_at_call 105; refine (isDigit_any _ _).mono ?_; rintro e w' ⟨rfl, rfl⟩))
                  go_round
                  case rel => exact ⟨k + 1, by omega, by go_num, good_next hG hg⟩
                  case measure => simp [intOf]; omega
                · have a3' : ((s[k].toNat : Int) != 45) = true := by simpa using a3
                  have hg := Lib.hid (show goodB s k = false by unfold goodB; rw [← E.out, a1', a2']; simp; omega)
                  clear a3
                  go_wp2_with (first | (go_at_call 104; refine (isSmall_any _ _).mono ?_; rintro e w' ⟨rfl, rfl⟩) | (go_at_call 105; refine (isDigit_any _ _).mono ?_; rintro e w' ⟨rfl, rfl⟩))
                  go_ret
                  exact says_no (fun hP => by have := hP.2 k hlt; rw [hg.out] at this; cases this)
          · go_wp2_with (first | (go_at_call 104; refine (isSmall_any _ _).mono ?_; rintro e w' ⟨rfl, rfl⟩) | (go_at_call 105; refine (isDigit_any _ _).mono ?_; rintro e w' ⟨rfl, rfl⟩))
            go_ret
            exact says_yes ⟨⟨H1.out, H2.out⟩, fun j hj => hG.out j (by omega)⟩
      · have hb' : smB (s[0].toNat : Int) = false := by simpa using hb
        have HB := Lib.hid (show goodB s 0 = false by unfold goodB; rw [← E0.out, hb']; rfl)
        clear hb
        go_enter Try.func47, Try.ntmps47
        go_wp2_with (first | (go_at_call 104; refine (isSmall_any _ _).mono ?_; rintro e w' ⟨rfl, rfl⟩) | (go_at_call 105; refine (isDigit_any _ _).mono ?_; rintro e w' ⟨rfl, rfl⟩))
        go_ret
        exact says_no (fun hP => by have := hP.2 0 hlt0; rw [HB.out] at this; cases this)
    · go_enter Try.func47, Try.ntmps47
      go_wp2_with (first | (go_at_call 104; refine (isSmall_any _ _).mono ?_; rintro e w' ⟨rfl, rfl⟩) | (go_at_call 105; refine (isDigit_any _ _).mono ?_; rintro e w' ⟨rfl, rfl⟩))
      go_ret
      exact says_no (fun hP => by have := hP.1; omega)
  · go_enter Try.func47, Try.ntmps47
    go_wp2_with (first | (go_at_call 104; refine (isSmall_any _ _).mono ?_; rintro e w' ⟨rfl, rfl⟩) | (go_at_call 105; refine (isDigit_any _ _).mono ?_; rintro e w' ⟨rfl, rfl⟩))
    go_ret
    exact says_no (fun hP => by have := hP.1; omega)

end Go.Proofs.Ytljjbdfpegjmcaa
namespace Go.Proofs.Ytljjbdfpegjmcaa
open Go.RowKit
set_option linter.unusedSimpArgs false
set_option linter.unusedVariables false

theorem landed_any (w : World) : Calls Try.prog 7 #[] w fun e w' => e = .returned (.bool true) ∧ w = w' := by
  go_enter Try.func7, Try.ntmps7
  go_wp2_with fail
  refine (isName_any _ _ (by decide)).mono ?_
  rintro e w1 ⟨b, rfl, hb, rfl⟩
  have hn : NameP ⟨#[97]⟩ := ⟨⟨by decide, by decide⟩, fun k hk => by
    obtain rfl : k = 0 := by have : (ByteArray.mk #[97]).size = 1 := rfl; omega
    decide⟩
  obtain rfl : b = true := hb.2 hn
  go_wp2_with fail
  go_ret
  exact ⟨rfl, rfl⟩

end Go.Proofs.Ytljjbdfpegjmcaa
namespace Go.Proofs.Ytljjbdfpegjmcaa
open Go.RowKit
set_option linter.unusedSimpArgs false
set_option linter.unusedVariables false

/-- Two blocks of a world may have changed, and no other. -/
structure Kept (cb nb : Nat) (w w' : World) : Prop where
  os : w'.os = w.os
  tape : w'.tape = w.tape
  output : w'.output = w.output
  size : w'.heap.size = w.heap.size
  block : ∀ b, b ≠ cb → b ≠ nb → w'.heap[b]? = w.heap[b]?
theorem Kept.refl (cb nb : Nat) (w : World) : Kept cb nb w w := ⟨rfl, rfl, rfl, rfl, fun _ _ _ => rfl⟩
theorem Kept.trans {cb nb : Nat} {w a b : World} (h : Kept cb nb w a) (k : Kept cb nb a b) : Kept cb nb w b :=
  ⟨k.os.trans h.os, k.tape.trans h.tape, k.output.trans h.output, k.size.trans h.size, fun i h1 h2 => (k.block i h1 h2).trans (h.block i h1 h2)⟩
theorem setCell_else (w : World) (a : Addr) (v : Value) (b : Nat) (h : b ≠ a.block) : (w.setCell a v).heap[b]? = w.heap[b]? := by
  unfold World.setCell
  split <;> simp [Array.getElem?_modify, Ne.symm h]
theorem Kept.set {cb nb : Nat} {w a : World} (h : Kept cb nb w a) (p : Addr) (hp : p.block = cb ∨ p.block = nb) (v : Value) : Kept cb nb w (a.setCell p v) := by
  have hb : Below 0 a (a.setCell p v) := (Below.refl _ _).setCell (Nat.zero_le _) _
  refine ⟨hb.os.trans h.os, hb.tape.trans h.tape, hb.output.trans h.output, ?_, fun b h1 h2 => ?_⟩
  · rw [World.size_setCell]; exact h.size
  · rw [setCell_else _ _ _ _ (by rcases hp with e | e <;> rw [e] <;> assumption)]
    exact h.block b h1 h2
theorem Kept.cell {cb nb : Nat} {w a : World} (h : Kept cb nb w a) {b o : Nat} (hb : b ≠ cb ∧ b ≠ nb) {v : Value} (hc : w.cell? ⟨b, o, none⟩ = some v) : a.cell? ⟨b, o, none⟩ = some v := by
  rw [← hc]; simp only [World.cell?, h.block b hb.1 hb.2]
theorem Kept.below {cb nb B : Nat} {w a : World} (h : Kept cb nb w a) (h1 : B ≤ cb) (h2 : B ≤ nb) : Below B w a :=
  ⟨h.os, h.tape, h.output, Nat.le_of_eq h.size.symm, fun k hk => h.block k (by omega) (by omega)⟩

/-- The counts of the values, and of all. -/
def CountSt (cb nb : Nat) (S : Nat → Int) (n : Int) (w : World) : Prop :=
  (∃ arr t, w.heap[cb]? = some (.cells arr t (0, 0)) ∧ t ≠ 5 ∧ arr.size = 256 ∧ ∀ u, u < 256 → arr[u]? = some (.int .i64 (S u))) ∧ w.heap[nb]? = some (.cells #[.int .i64 n] 3 (0, 0))

theorem heap_set {w : World} {b o : Nat} {arr : Array Value} {t : TypeId} {fr : Nat × Nat} {v : Value} (h : w.heap[b]? = some (.cells arr t fr)) : (w.setCell ⟨b, o, none⟩ v).heap[b]? = some (.cells (arr.setIfInBounds o v) t fr) := by
  simp [World.setCell, Array.getElem?_modify, h]

theorem CountSt.all {cb nb : Nat} {S : Nat → Int} {n : Int} {w : World} (h : CountSt cb nb S n w) : w.cell? ⟨nb, 0, none⟩ = some (.int .i64 n) ∧ w.frozen? ⟨nb, 0, none⟩ = false := by
  obtain ⟨_, h1⟩ := h
  exact ⟨by simp [World.cell?, h1], by simp [World.frozen?, h1]⟩
theorem CountSt.congr {cb nb : Nat} {S S' : Nat → Int} {n : Int} {w : World} (h : CountSt cb nb S n w) (hS : ∀ u, u < 256 → S u = S' u) : CountSt cb nb S' n w := by
  obtain ⟨⟨arr, t, h1, h2, h3, h4⟩, h5⟩ := h
  exact ⟨⟨arr, t, h1, h2, h3, fun u hu => by rw [← hS u hu]; exact h4 u hu⟩, h5⟩

end Go.Proofs.Ytljjbdfpegjmcaa
namespace Go.Proofs.Ytljjbdfpegjmcaa
open Go.RowKit
set_option linter.unusedSimpArgs false
set_option linter.unusedVariables false

/-- What stays while a row is made. -/
structure MidFr (gb tb db base : Nat) (w : World) (og ot od : Obj) (wr : World) : Prop where
  g : wr.heap[gb]? = some og
  t : wr.heap[tb]? = some ot
  d : wr.heap[db]? = some od
  b : Below base w wr
theorem MidFr.kept {gb tb db base cb nb : Nat} {w wr w' : World} {og ot od : Obj} (h : MidFr gb tb db base w og ot od wr) (k : Kept cb nb wr w') (hg : gb ≠ cb ∧ gb ≠ nb) (ht : tb ≠ cb ∧ tb ≠ nb) (hd : db ≠ cb ∧ db ≠ nb) (h1 : base ≤ cb) (h2 : base ≤ nb) : MidFr gb tb db base w og ot od w' :=
  ⟨(k.block _ hg.1 hg.2).trans h.g, (k.block _ ht.1 ht.2).trans h.t, (k.block _ hd.1 hd.2).trans h.d, h.b.trans (k.below h1 h2)⟩
theorem MidFr.grown {gb tb db base : Nat} {w wr w' : World} {og ot od : Obj} {row : Option Nat} (h : MidFr gb tb db base w og ot od wr) (k : wr.grownBy w' row) (hg : row ≠ some gb) (ht : row ≠ some tb) (hd : row ≠ some db) (hb : base ≤ wr.heap.size) (hr : ∀ i, row = some i → base ≤ i) : MidFr gb tb db base w og ot od w' :=
  ⟨grown_block k h.g (Ne.symm hg), grown_block k h.t (Ne.symm ht), grown_block k h.d (Ne.symm hd), h.b.grown k hb hr⟩
theorem CountSt.grown {cb nb : Nat} {S : Nat → Int} {n : Int} {w w' : World} {row : Option Nat} (h : CountSt cb nb S n w) (k : w.grownBy w' row) (h1 : row ≠ some cb) (h2 : row ≠ some nb) : CountSt cb nb S n w' := by
  obtain ⟨⟨arr, t, g1, g2, g3, g4⟩, g5⟩ := h
  exact ⟨⟨arr, t, grown_block k g1 (Ne.symm h1), g2, g3, g4⟩, grown_block k g5 (Ne.symm h2)⟩
end Go.Proofs.Ytljjbdfpegjmcaa
namespace Go.Proofs.Ytljjbdfpegjmcaa
open Go.RowKit
set_option linter.unusedSimpArgs false
set_option linter.unusedVariables false

theorem Kept.drew {cb nb : Nat} {w a : World} (h : Kept cb nb w a) : Kept cb nb w a.drew := ⟨h.os, h.tape, h.output, h.size, h.block⟩
end Go.Proofs.Ytljjbdfpegjmcaa
namespace Go.Proofs.Ytljjbdfpegjmcaa
open Go.RowKit
set_option linter.unusedSimpArgs false
set_option linter.unusedVariables false

/-- The two numbers that are kept. -/
def TwoB (fb gb : Nat) (p : Int × Int) (w : World) : Prop := w.heap[fb]? = some (.cells #[.int .i64 p.1] 3 (0, 0)) ∧ w.heap[gb]? = some (.cells #[.int .i64 p.2] 3 (0, 0))
theorem TwoB.later {fb gb : Nat} {p : Int × Int} {w w' : World} (h : TwoB fb gb p w) (hb : Below w.heap.size w w') : TwoB fb gb p w' := ⟨below_block hb h.1, below_block hb h.2⟩
theorem TwoB.set {fb gb : Nat} {p : Int × Int} {w : World} (h : TwoB fb gb p w) (hne : fb ≠ gb) (x y : Int) : TwoB fb gb (x, y) ((w.setCell ⟨fb, 0, none⟩ (.int .i64 x)).setCell ⟨gb, 0, none⟩ (.int .i64 y)) := by
  constructor
  · rw [setCell_else _ _ _ _ (by simpa using hne), heap_set h.1]; simp
  · have : (w.setCell ⟨fb, 0, none⟩ (.int .i64 x)).heap[gb]? = some (.cells #[.int .i64 p.2] 3 (0, 0)) := by
      rw [setCell_else _ _ _ _ (by simpa using hne.symm)]; exact h.2
    rw [heap_set this]; simp

end Go.Proofs.Ytljjbdfpegjmcaa
namespace Go.Proofs.Ytljjbdfpegjmcaa
open Go.RowKit
set_option linter.unusedSimpArgs false
set_option linter.unusedVariables false

/-- The mean of the pixels of a square of two by two from (2x, 2y) on, as far as they are there. -/
def mean4 (P : Nat → Int) (W H x y : Nat) : Int :=
  (2 * rectSum P W (2 * y) (2 * x) (min (2 * x + 2) W - 2 * x) (min (2 * y + 2) H - 2 * y) + (((min (2 * x + 2) W - 2 * x) * (min (2 * y + 2) H - 2 * y) : Nat) : Int)) / (2 * (((min (2 * x + 2) W - 2 * x) * (min (2 * y + 2) H - 2 * y) : Nat) : Int))

end Go.Proofs.Ytljjbdfpegjmcaa
namespace Go.Proofs.Ytljjbdfpegjmcaa
open Go.RowKit
set_option linter.unusedSimpArgs false
set_option linter.unusedVariables false

/-- The place (a, b) lies in the other page. -/
def InC (Wc Hc : Nat) (x y : Int) (a b : Nat) : Prop := (0 ≤ (a : Int) - x ∧ (a : Int) - x < Wc) ∧ (0 ≤ (b : Int) - y ∧ (b : Int) - y < Hc)
instance (Wc Hc : Nat) (x y : Int) (a b : Nat) : Decidable (InC Wc Hc x y a b) := by unfold InC; infer_instance

/-- A place of the page with the other one pasted. -/
def pasteAt (W Wc Hc : Nat) (x y : Int) (z1 z2 : Nat → Bool) (a b : Nat) : Bool :=
  z1 (b * W + a) || (decide (InC Wc Hc x y a b) && z2 (((b : Int) - y).toNat * Wc + ((a : Int) - x).toNat))

end Go.Proofs.Ytljjbdfpegjmcaa
namespace Go.Proofs.Ytljjbdfpegjmcaa
open Go.RowKit
set_option linter.unusedSimpArgs false
set_option linter.unusedVariables false

/-- What a halved page is, in memory: nothing with an error; else the means. -/
def HalveIs (a b : Int) (n : Nat) (z : Nat → Int) (B : Nat) (w : World) (i j : Int) (sl : Option Addr) (n' c' : Nat) : Prop :=
  (pageErr a b n ≠ 0 ∧ i = 0 ∧ j = 0 ∧ sl = none ∧ n' = 0 ∧ c' = 0) ∨
  (pageErr a b n = 0 ∧ i = (((a.toNat + 1) / 2 : Nat) : Int) ∧ j = (((b.toNat + 1) / 2 : Nat) : Int) ∧ n' = (a.toNat + 1) / 2 * ((b.toNat + 1) / 2) ∧ ∃ g, B ≤ g ∧ sl = some ⟨g, 0, none⟩ ∧ ∀ k, k < n' → w.cell? ⟨g, 0 + k, none⟩ = some (.int .u8 (mean4 z a.toNat b.toNat (k % ((a.toNat + 1) / 2)) (k / ((a.toNat + 1) / 2)))))

theorem HalveIs.later {a b : Int} {n : Nat} {z : Nat → Int} {B : Nat} {w w' : World} {i j : Int} {sl : Option Addr} {n' c' : Nat} (h : HalveIs a b n z B w i j sl n' c') (hb : Below w.heap.size w w') : HalveIs a b n z B w' i j sl n' c' := by
  rcases h with h | ⟨h1, h2, h3, h4, g, h5, h6, h7⟩
  · exact .inl h
  · exact .inr ⟨h1, h2, h3, h4, g, h5, h6, fun k hk => cell_later hb (h7 k hk)⟩

/-- The error of pasting. -/
def pasteErr (a1 b1 : Int) (n1 : Nat) (a2 b2 : Int) (n2 : Nat) : Int := orI (pageErr a1 b1 n1) (pageErr a2 b2 n2)

/-- What a pasted page is, in memory. -/
def PasteIs (a1 b1 : Int) (n1 : Nat) (a2 b2 : Int) (n2 : Nat) (x y : Int) (z1 z2 : Nat → Bool) (B : Nat) (w : World) (i j : Int) (sl : Option Addr) (n' c' : Nat) : Prop :=
  (pasteErr a1 b1 n1 a2 b2 n2 ≠ 0 ∧ i = 0 ∧ j = 0 ∧ sl = none ∧ n' = 0 ∧ c' = 0) ∨
  (pasteErr a1 b1 n1 a2 b2 n2 = 0 ∧ i = a1 ∧ j = b1 ∧ n' = n1 ∧ ∃ g, B ≤ g ∧ sl = some ⟨g, 0, none⟩ ∧ ∀ k, k < n' → w.cell? ⟨g, 0 + k, none⟩ = some (.bool (pasteAt a1.toNat a2.toNat b2.toNat x y z1 z2 (k % a1.toNat) (k / a1.toNat))))

theorem PasteIs.later {a1 b1 : Int} {n1 : Nat} {a2 b2 : Int} {n2 : Nat} {x y : Int} {z1 z2 : Nat → Bool} {B : Nat} {w w' : World} {i j : Int} {sl : Option Addr} {n' c' : Nat} (h : PasteIs a1 b1 n1 a2 b2 n2 x y z1 z2 B w i j sl n' c') (hb : Below w.heap.size w w') : PasteIs a1 b1 n1 a2 b2 n2 x y z1 z2 B w' i j sl n' c' := by
  rcases h with h | ⟨h1, h2, h3, h4, g, h5, h6, h7⟩
  · exact .inl h
  · exact .inr ⟨h1, h2, h3, h4, g, h5, h6, fun k hk => cell_later hb (h7 k hk)⟩

end Go.Proofs.Ytljjbdfpegjmcaa
namespace Go.Proofs.Ytljjbdfpegjmcaa
open Go.RowKit
set_option linter.unusedSimpArgs false
set_option linter.unusedVariables false

/-- What a page is that was made by places, in memory: nothing with an error; else its places. -/
def PageIs (E : Int) (a b : Int) (f : Nat → Nat → Bool) (B : Nat) (w : World) (i j : Int) (sl : Option Addr) (n' c' : Nat) : Prop :=
  (E ≠ 0 ∧ i = 0 ∧ j = 0 ∧ sl = none ∧ n' = 0 ∧ c' = 0) ∨
  (E = 0 ∧ i = a ∧ j = b ∧ n' = a.toNat * b.toNat ∧ ∃ g, B ≤ g ∧ sl = some ⟨g, 0, none⟩ ∧ ∀ k, k < n' → w.cell? ⟨g, 0 + k, none⟩ = some (.bool (f (k % a.toNat) (k / a.toNat))))

theorem PageIs.later {E a b : Int} {f : Nat → Nat → Bool} {B : Nat} {w w' : World} {i j : Int} {sl : Option Addr} {n' c' : Nat} (h : PageIs E a b f B w i j sl n' c') (hb : Below w.heap.size w w') : PageIs E a b f B w' i j sl n' c' := by
  rcases h with h | ⟨h1, h2, h3, h4, g, h5, h6, h7⟩
  · exact .inl h
  · exact .inr ⟨h1, h2, h3, h4, g, h5, h6, fun k hk => cell_later hb (h7 k hk)⟩
end Go.Proofs.Ytljjbdfpegjmcaa
namespace Go.Proofs.Ytljjbdfpegjmcaa
open Go.RowKit
set_option linter.unusedSimpArgs false
set_option linter.unusedVariables false

/-- What a page is that was made by places, in memory: nothing with an error; else its places. -/
def PageIsY (E : Int) (a b : Int) (f : Nat → Nat → Int) (B : Nat) (w : World) (i j : Int) (sl : Option Addr) (n' c' : Nat) : Prop :=
  (E ≠ 0 ∧ i = 0 ∧ j = 0 ∧ sl = none ∧ n' = 0 ∧ c' = 0) ∨
  (E = 0 ∧ i = a ∧ j = b ∧ n' = a.toNat * b.toNat ∧ ∃ g, B ≤ g ∧ sl = some ⟨g, 0, none⟩ ∧ ∀ k, k < n' → w.cell? ⟨g, 0 + k, none⟩ = some (.int .u8 (f (k % a.toNat) (k / a.toNat))))

theorem PageIsY.later {E a b : Int} {f : Nat → Nat → Int} {B : Nat} {w w' : World} {i j : Int} {sl : Option Addr} {n' c' : Nat} (h : PageIsY E a b f B w i j sl n' c') (hb : Below w.heap.size w w') : PageIsY E a b f B w' i j sl n' c' := by
  rcases h with h | ⟨h1, h2, h3, h4, g, h5, h6, h7⟩
  · exact .inl h
  · exact .inr ⟨h1, h2, h3, h4, g, h5, h6, fun k hk => cell_later hb (h7 k hk)⟩
end Go.Proofs.Ytljjbdfpegjmcaa
namespace Go.Proofs.Ytljjbdfpegjmcaa
open Go.RowKit
set_option linter.unusedSimpArgs false
set_option linter.unusedVariables false

theorem below_far4 {w a : World} {B b : Nat} {x y z u : Value} (h : Below B w a) (hb : B ≤ b) : Below B w ((((a.setCell ⟨b, 0, none⟩ x).setCell ⟨b, 1, none⟩ y).setCell ⟨b, 2, none⟩ z).setCell ⟨b, 3, none⟩ u) :=
  (((h.setCell hb _).setCell hb _).setCell hb _).setCell hb _

end Go.Proofs.Ytljjbdfpegjmcaa
namespace Go.Proofs.Ytljjbdfpegjmcaa
open Go.RowKit
set_option linter.unusedSimpArgs false
set_option linter.unusedVariables false

/-- The counts of dark pixels, as they grow. -/
structure Darks (N rg cg W H : Nat) (q : Nat → Bool) (w1 : World) (y x : Nat) (wx : World) : Prop where
  r : wx.rowIs rg 3 H (fun k => .int .i64 ((rowsAt q W y x k : Nat) : Int))
  c : wx.rowIs cg 3 W (fun k => .int .i64 ((colsAt q W y x k : Nat) : Int))
  b : Below N w1 wx

theorem Darks.row {N rg cg W H y : Nat} {q : Nat → Bool} {w1 wx : World} (h : Darks N rg cg W H q w1 y W wx) : Darks N rg cg W H q w1 (y + 1) 0 wx :=
  ⟨h.r.congr fun i _ => by rw [rowsAt_row], h.c.congr fun i hi => by rw [colsAt_row _ _ _ _ hi], h.b⟩
end Go.Proofs.Ytljjbdfpegjmcaa
namespace Go.Proofs.Ytljjbdfpegjmcaa
open Go.RowKit
set_option linter.unusedSimpArgs false
set_option linter.unusedVariables false

theorem heap_setB {w : World} {b o : Nat} {arr : Array Value} {t : TypeId} {fr : Nat × Nat} {v : Value} (h : w.heap[b]? = some (.cells arr t fr)) : (w.setCell ⟨b, o, none⟩ v).heap[b]? = some (.cells (arr.setIfInBounds o v) t fr) := by
  simp [World.setCell, Array.getElem?_modify, h]
theorem set_aggB {wx : World} {b : Nat} {x y z u x' y' z' u' : Value} {t : TypeId} (h : wx.heap[b]? = some (.cells #[x, y, z, u] t (0, 0))) :
    ((((wx.setCell ⟨b, 0, none⟩ x').setCell ⟨b, 1, none⟩ y').setCell ⟨b, 2, none⟩ z').setCell ⟨b, 3, none⟩ u').heap[b]? = some (.cells #[x', y', z', u'] t (0, 0)) := by
  have e1 := heap_setB h (o := 0) (v := x')
  have e2 := heap_setB e1 (o := 1) (v := y')
  have e3 := heap_setB e2 (o := 2) (v := z')
  have e4 := heap_setB e3 (o := 3) (v := u')
  simpa using e4

/-- What holds between two boxes of the list. -/
structure Hulling (N hb : Nat) (B : Nat → Bx) (w1 : World) (k : Nat) (wx : World) : Prop where
  h : wx.heap[hb]? = some (.cells #[.int .i64 (hullX B k).1, .int .i64 (hullY B k).1, .int .i64 ((hullX B k).2 - (hullX B k).1), .int .i64 ((hullY B k).2 - (hullY B k).1)] 25 (0, 0))
  b : Below N w1 wx

set_option maxHeartbeats 2000000 in
set_option maxRecDepth 100000 in
theorem hullR_any (n g o c : Nat) (B : Nat → Bx) (w : World) (hn1 : 1 ≤ n) (hn : n ≤ 100000) (hB : BoxesAt w g o n B) (hOK : ∀ i, i < n → (B i).OK) :
    Calls Try.prog 13 #[.slice (some ⟨g, o, none⟩) n c] w fun e w' =>
      e = .returned (.agg #[.int .i64 (hullX B n).1, .int .i64 (hullY B n).1, .int .i64 ((hullX B n).2 - (hullX B n).1), .int .i64 ((hullY B n).2 - (hullY B n).1)]) ∧ Below w.heap.size w w' := by
  obtain ⟨⟨c0, c1⟩, c2, c3⟩ := hB 0 hn1
  rw [Nat.zero_mul, Nat.add_zero] at c0 c1 c2 c3
  have hgw : g < w.heap.size := by
    have := World.block_lt_of_cell? _ _ c0
    simpa using this
  have HB := Lib.hid hB
  have HX := Lib.hid (hullX_ok hn1 hOK)
  have HY := Lib.hid (hullY_ok hn1 hOK)
  have HO := Lib.hid hOK
  have HG := Lib.hid hgw
  have z0 : (hullX B 0).2 - (hullX B 0).1 = (B 0).w := by show (B 0).x + (B 0).w - (B 0).x = _; omega
  have z1 : (hullY B 0).2 - (hullY B 0).1 = (B 0).h := by show (B 0).y + (B 0).h - (B 0).y = _; omega
  have Z0 := Lib.hid (And.intro z0 z1)
  have i1 : (0 : Int) < (n : Int) := by omega
  clear hB hOK z0 z1
  go_enter Try.func13, Try.ntmps13
  go_upto_region 2 with (fail)
  obtain ⟨w1, hw1⟩ : ∃ w1, w1 = (w.alloc (.cells #[.int .i64 0, .int .i64 0, .int .i64 0, .int .i64 0] 25)).alloc (.cells #[.int .i64 (B 0).x, .int .i64 (B 0).y, .int .i64 (B 0).w, .int .i64 (B 0).h] 25) := ⟨_, rfl⟩
  have B1 := Lib.hid (show Below w.heap.size w w1 by rw [hw1]; exact below_alloc (new_below _ _) _)
  have qr := Lib.hid (show w1.heap[w.heap.size]? = some (.cells #[.int .i64 0, .int .i64 0, .int .i64 0, .int .i64 0] 25 (0, 0)) by rw [hw1, Below.heap_alloc _ _ _ (by simp)]; exact heap_alloc_new _ _)
  have H0 := Lib.hid (show Hulling (w.heap.size + 1) (w.heap.size + 1) B w1 0 w1 from ⟨by
    rw [Z0.out.1, Z0.out.2]
    show w1.heap[w.heap.size + 1]? = some (.cells #[.int .i64 (B 0).x, .int .i64 (B 0).y, .int .i64 (B 0).w, .int .i64 (B 0).h] 25 (0, 0))
    rw [hw1]; simpa using heap_alloc_new (w.alloc (.cells #[.int .i64 0, .int .i64 0, .int .i64 0, .int .i64 0] 25)) (.cells #[.int .i64 (B 0).x, .int .i64 (B 0).y, .int .i64 (B 0).w, .int .i64 (B 0).h] 25), Below.refl _ _⟩)
  have hs1 : w1.heap.size = w.heap.size + 1 + 1 := by rw [hw1]; simp
  have HS := Lib.hid hs1
  rw [← hw1]
  clear hw1 c0 c1 c2 c3 hs1
  go_wp2_with fail
  go_loopw [13] (fun i wr => ∃ k : Nat, k ≤ n ∧ i = .int .i64 k ∧ Hid (Hulling (w.heap.size + 1) (w.heap.size + 1) B w1 k wr)) (fun i _ => n - (intOf i).toNat)
  case atStart => exact ⟨0, Nat.zero_le _, rfl, H0⟩
  case round =>
    obtain ⟨k, hk, rfl, HR⟩ := hrel
    clear H0
    by_cases hlt : k < n
    · have hbw : ∀ {a : Nat} {v : Value}, w.cell? ⟨g, a, none⟩ = some v → wr.cell? ⟨g, a, none⟩ = some v := fun {a v} h => (HR.out.b.cell (p := ⟨g, a, none⟩) (by have := HG.out; simp; omega)).trans (cell_later B1.out h)
      obtain ⟨⟨c0, c1⟩, c2, c3⟩ := HB.out k hlt
      have c0 := hbw c0
      have c1 := hbw c1
      have c2 := hbw c2
      have c3 := hbw c3
      have hbl := (Array.getElem?_eq_some_iff.1 HR.out.h).1
      have ok := HO.out k hlt
      have hx := HX.out k hk
      have hy := HY.out k hk
      have sX : hullX B (k + 1) = (min (hullX B k).1 (B k).x, max (hullX B k).2 ((B k).x + (B k).w)) := rfl
      have sY : hullY B (k + 1) = (min (hullY B k).1 (B k).y, max (hullY B k).2 ((B k).y + (B k).h)) := rfl
      have HS2 := Lib.hid (And.intro sX sY)
      unfold Bx.OK BxOK at ok
      clear hbw sX sY
      have HH := HR.out.h
      generalize hullX B k = P at hx HS2 HH
      generalize hullY B k = Q at hy HS2 HH
      generalize B k = b at *
      obtain ⟨p1, p2⟩ := P
      obtain ⟨q1, q2⟩ := Q
      obtain ⟨X, Y, U, V⟩ := b
      simp only at *
      obtain ⟨⟨x1, x2⟩, x3, x4⟩ := hx
      obtain ⟨⟨y1, y2⟩, y3, y4⟩ := hy
      obtain ⟨⟨⟨o1, o2⟩, o3, o4⟩, ⟨o5, o6⟩, o7, o8⟩ := ok
      have i2 : (k : Int) < (n : Int) := by omega
      go_upto_region 5 with (fail)
      obtain ⟨w3, hw3⟩ : ∃ w3, w3 = wr.alloc (.cells #[.int .i64 X, .int .i64 Y, .int .i64 U, .int .i64 V] 25) := ⟨_, rfl⟩
      have hb3 : Below wr.heap.size wr w3 := by rw [hw3]; exact new_below _ _
      have x3 : w3.heap[wr.heap.size]? = some (.cells #[.int .i64 X, .int .i64 Y, .int .i64 U, .int .i64 V] 25 (0, 0)) := by rw [hw3]; exact heap_alloc_new _ _
      rw [← hw3]
      clear hw3 c0 c1 c2 c3
      have H3 := below_block hb3 HH
      have hB3 := Lib.hid (HR.out.b.trans (hb3.mono (show w.heap.size + 1 ≤ wr.heap.size by omega)))
      obtain ⟨⟨j0, j1, j2, j3⟩, f0, f1, f2, f3⟩ := block4 H3
      obtain ⟨⟨c0, c1, c2, c3⟩, _, _, _, _⟩ := block4 x3
      have ne : wr.heap.size ≠ w.heap.size + 1 := by omega
      have HH3 := Lib.hid H3
      have e1 : p1 + (p2 - p1) = p2 := by omega
      have e2 : q1 + (q2 - q1) = q2 := by omega
      clear hb3 x3 H3 HH
      go_quiet (fail)
      go_wp2
      go_roundw
      case rel =>
        refine ⟨k + 1, by omega, by go_num, Lib.hid ⟨?_, ?_⟩⟩
        · rw [HS2.out.1, HS2.out.2]
          have := set_aggB (x' := .int .i64 (min p1 X)) (y' := .int .i64 (min q1 Y)) (z' := .int .i64 (max p2 (X + U) - min p1 X)) (u' := .int .i64 (max q2 (Y + V) - min q1 Y)) (show (w3.drewN nq).heap[w.heap.size + 1]? = _ from HH3.out)
          exact this
        · exact ((((below_drewN hB3.out _).setCell (Nat.le_refl _) _).setCell (Nat.le_refl _) _).setCell (Nat.le_refl _) _).setCell (Nat.le_refl _) _
      case measure => simp [intOf]; omega
    · obtain rfl : k = n := by omega
      have QR := Lib.hid ((HR.out.b.block w.heap.size (by omega)).trans qr.out)
      obtain ⟨⟨j0, j1, j2, j3⟩, f0, f1, f2, f3⟩ := block4 HR.out.h
      obtain ⟨⟨k0, k1, k2, k3⟩, g0, g1, g2, g3⟩ := block4 QR.out
      have G := Lib.hid (B1.out.trans (HR.out.b.mono (show w.heap.size ≤ w.heap.size + 1 by omega)))
      go_wp2_with fail
      exact bodyPost_ret (v := .agg #[.int .i64 (hullX B k).1, .int .i64 (hullY B k).1, .int .i64 ((hullX B k).2 - (hullX B k).1), .int .i64 ((hullY B k).2 - (hullY B k).1)]) (by simp [results, Try.results13, go_sem, k0, k1, k2, k3]) rfl ⟨rfl, below_far4 G.out (Nat.le_refl _)⟩

end Go.Proofs.Ytljjbdfpegjmcaa
namespace Go.Proofs.Ytljjbdfpegjmcaa
open Go.RowKit
set_option linter.unusedSimpArgs false
set_option linter.unusedVariables false

theorem size_any (a b : Int) (w : World) (h : (-5000000 ≤ a ∧ a ≤ 5000000) ∧ (-5000000 ≤ b ∧ b ≤ 5000000)) : Calls Try.prog 106 #[.agg #[.int .i64 a, .int .i64 b]] w fun e w' => e = .returned (.int .i64 (b - a)) ∧ Below w.heap.size w w' := by
  obtain ⟨⟨x1, x2⟩, x3, x4⟩ := h
  go_enter Try.func106, Try.ntmps106
  go_wp2_with fail
  go_ret
  exact ⟨rfl, new_below _ _⟩

set_option maxHeartbeats 800000 in
set_option maxRecDepth 100000 in
theorem boxOf_any (a b c d : Int) (w : World) (h1 : (-5000000 ≤ a ∧ a ≤ 5000000) ∧ (-5000000 ≤ b ∧ b ≤ 5000000)) (h2 : (-5000000 ≤ c ∧ c ≤ 5000000) ∧ (-5000000 ≤ d ∧ d ≤ 5000000)) :
    Calls Try.prog 54 #[.agg #[.int .i64 a, .int .i64 b], .agg #[.int .i64 c, .int .i64 d]] w fun e w' => e = .returned (.agg #[.int .i64 a, .int .i64 c, .int .i64 (b - a), .int .i64 (d - c)]) ∧ Below w.heap.size w w' := by
  have H1 := Lib.hid h1
  have H2 := Lib.hid h2
  clear h1 h2
  obtain ⟨w1, hw1⟩ : ∃ w1, w1 = ((w.alloc (.cells #[.int .i64 a, .int .i64 b] 96)).alloc (.cells #[.int .i64 c, .int .i64 d] 96)).alloc (.cells #[.int .i64 0, .int .i64 0, .int .i64 0, .int .i64 0] 25) := ⟨_, rfl⟩
  have B1 := Lib.hid (show Below w.heap.size w w1 by rw [hw1]; exact below_alloc (below_alloc (new_below _ _) _) _)
  have q0 : w1.cell? ⟨w.heap.size, 0, none⟩ = some (.int .i64 a) := by rw [hw1]; go_simp
  have q1 : w1.cell? ⟨w.heap.size, 1, none⟩ = some (.int .i64 b) := by rw [hw1]; go_simp
  have q2 : w1.cell? ⟨w.heap.size + 1, 0, none⟩ = some (.int .i64 c) := by rw [hw1]; go_simp
  have q3 : w1.cell? ⟨w.heap.size + 1, 1, none⟩ = some (.int .i64 d) := by rw [hw1]; go_simp
  have qb : w1.heap[w.heap.size + 1 + 1]? = some (.cells #[.int .i64 0, .int .i64 0, .int .i64 0, .int .i64 0] 25 (0, 0)) := by
    rw [hw1]; simpa using heap_alloc_new ((w.alloc (.cells #[.int .i64 a, .int .i64 b] 96)).alloc (.cells #[.int .i64 c, .int .i64 d] 96)) (.cells #[.int .i64 0, .int .i64 0, .int .i64 0, .int .i64 0] 25)
  have QB := Lib.hid qb
  go_enter Try.func54, Try.ntmps54
  go_upto_region 1 with (fail)
  rw [← hw1]
  clear hw1 qb
  have ne1 : w.heap.size ≠ w.heap.size + 1 + 1 := by omega
  have ne2 : w.heap.size + 1 ≠ w.heap.size + 1 + 1 := by omega
  have ne1' : w.heap.size + 1 + 1 ≠ w.heap.size := ne1.symm
  have ne2' : w.heap.size + 1 + 1 ≠ w.heap.size + 1 := ne2.symm
  go_region_held3 (fun w' => w'.cell? ⟨w.heap.size, 0, none⟩ = some (.int .i64 a) ∧ w'.cell? ⟨w.heap.size, 1, none⟩ = some (.int .i64 b) ∧ w'.cell? ⟨w.heap.size + 1, 0, none⟩ = some (.int .i64 c) ∧ w'.cell? ⟨w.heap.size + 1, 1, none⟩ = some (.int .i64 d))
    (first | (go_keep; done) | (go_split_ands; exact ⟨cell_later ha (by assumption), cell_later ha (by assumption), cell_later ha (by assumption), cell_later ha (by assumption)⟩) | (go_split_ands; exact ⟨cell_later hb (by assumption), cell_later hb (by assumption), cell_later hb (by assumption), cell_later hb (by assumption)⟩))
    ((first | (go_at_call 106; ((with_reducible refine (size_any a b w1.drew H1.out).mono ?_); rintro e wa ⟨rfl, ha⟩)) | (go_at_call 106; ((with_reducible refine (size_any c d wa H2.out).mono ?_); rintro e wb ⟨rfl, hb⟩; obtain ⟨⟨k0, k1, k2, k3⟩, g0, g1, g2, g3⟩ := block4 (below_block hb (below_block ha (show w1.drew.heap[w.heap.size + 1 + 1]? = _ from QB.out)))))))
  have G := Lib.hid (below_step (below_step B1.out (below_step (Below.refl _ _).drew ha)) hb)
  have hsz : w.heap.size ≤ w.heap.size + 1 + 1 := by omega
  clear ha hb
  go_wp2_with fail
  exact bodyPost_ret (v := .agg #[.int .i64 a, .int .i64 c, .int .i64 (b - a), .int .i64 (d - c)]) (by simp [results, Try.results54, go_sem, k0, k1, k2, k3]) rfl ⟨rfl, below_far4 G.out hsz⟩

end Go.Proofs.Ytljjbdfpegjmcaa
namespace Go.Proofs.Ytljjbdfpegjmcaa
open Go.RowKit
set_option linter.unusedSimpArgs false
set_option linter.unusedVariables false

theorem spanC_exact (X Y bw bh : Int) (w : World) (hX : -2000000 ≤ X ∧ X ≤ 2000000) (hw : 0 ≤ bw ∧ bw ≤ 2000000) : Calls Try.prog 51 #[.agg #[.int .i64 X, .int .i64 Y, .int .i64 bw, .int .i64 bh]] w fun e w' => e = .returned (.agg #[.int .i64 X, .int .i64 (X + bw)]) ∧ w' = (w.alloc (.cells #[.int .i64 X, .int .i64 Y, .int .i64 bw, .int .i64 bh] 25)).alloc (.cells #[.int .i64 X, .int .i64 (X + bw)] 96) := by
  obtain ⟨x1, x2⟩ := hX
  obtain ⟨x3, x4⟩ := hw
  go_enter Try.func51, Try.ntmps51
  go_wp2_with fail
  exact bodyPost_ret (v := .agg #[.int .i64 X, .int .i64 (X + bw)]) (by simp [results, Try.results51, go_sem]) rfl ⟨rfl, rfl⟩
theorem spanR_exact (X Y bw bh : Int) (w : World) (hX : -2000000 ≤ Y ∧ Y ≤ 2000000) (hw : 0 ≤ bh ∧ bh ≤ 2000000) : Calls Try.prog 52 #[.agg #[.int .i64 X, .int .i64 Y, .int .i64 bw, .int .i64 bh]] w fun e w' => e = .returned (.agg #[.int .i64 Y, .int .i64 (Y + bh)]) ∧ w' = (w.alloc (.cells #[.int .i64 X, .int .i64 Y, .int .i64 bw, .int .i64 bh] 25)).alloc (.cells #[.int .i64 Y, .int .i64 (Y + bh)] 96) := by
  obtain ⟨x1, x2⟩ := hX
  obtain ⟨x3, x4⟩ := hw
  go_enter Try.func52, Try.ntmps52
  go_wp2_with fail
  exact bodyPost_ret (v := .agg #[.int .i64 Y, .int .i64 (Y + bh)]) (by simp [results, Try.results52, go_sem]) rfl ⟨rfl, rfl⟩
set_option maxRecDepth 100000 in
theorem checkBoxes_nil (s : Option Addr) (c : Nat) (w : World) :
    Calls Try.prog 50 #[.slice s 0 c] w fun e w' => e = .returned (.int .i64 0) ∧ Below w.heap.size w w' := by
  go_enter Try.func50, Try.ntmps50
  go_wp2_with fail
  go_loopw [11] (fun i wr => i = .int .i64 0 ∧ Hid (Below w.heap.size w wr)) (fun i _ => 0)
  case atStart => exact ⟨rfl, Lib.hid (Below.refl _ _)⟩
  case round =>
    obtain ⟨rfl, HR⟩ := hrel
    go_wp2_with fail
    go_ret
    exact ⟨rfl, HR.out⟩

theorem zero_box {w : World} : (w.alloc (.cells #[.int .i64 0, .int .i64 0, .int .i64 0, .int .i64 0] 25)).heap[w.heap.size]? = some (.cells #[.int .i64 0, .int .i64 0, .int .i64 0, .int .i64 0] 25 (0, 0)) := heap_alloc_new _ _

set_option maxHeartbeats 1000000 in
set_option maxRecDepth 100000 in
theorem hullP_bad (n g o c : Nat) (B : Nat → Bx) (w : World) (hn : n ≤ 100000) (hB : BoxesAt w g o n B) (h : listErr B n ≠ 0) :
    Calls Try.prog 11 #[.slice (some ⟨g, o, none⟩) n c] w fun e w' => e = .returned (.tuple #[.agg #[.int .i64 0, .int .i64 0, .int .i64 0, .int .i64 0], .int .i64 (listErr B n)]) ∧ Below w.heap.size w w' := by
  obtain ⟨w1, hw1⟩ : ∃ w1, w1 = w.alloc (.cells #[.int .i64 0, .int .i64 0, .int .i64 0, .int .i64 0] 25) := ⟨_, rfl⟩
  have B1 : Below w.heap.size w w1 := by rw [hw1]; exact new_below _ _
  have qb : w1.heap[w.heap.size]? = some (.cells #[.int .i64 0, .int .i64 0, .int .i64 0, .int .i64 0] 25 (0, 0)) := by rw [hw1]; exact zero_box
  have HB := Lib.hid (hB.later B1)
  have H1 := Lib.hid B1
  have HQ := Lib.hid qb
  obtain ⟨E, hE⟩ : ∃ E, E = listErr B n := ⟨_, rfl⟩
  rw [← hE] at h ⊢
  have HE := Lib.hid hE
  have t1 : (E != 0) = true := by simpa using h
  clear hB B1 qb hE h
  go_enter Try.func11, Try.ntmps11
  go_upto_region 1 with (fail)
  rw [← hw1]
  clear hw1
  go_wp2_with fail
  refine (checkBoxes_any n g o c B w1 hn HB.out).mono ?_
  rintro e w2 ⟨rfl, hb2⟩
  rw [← HE.out]
  have G := Lib.hid (below_step H1.out hb2)
  obtain ⟨⟨j0, j1, j2, j3⟩, f0, f1, f2, f3⟩ := block4 (below_block hb2 HQ.out)
  clear hb2
  go_wp2_with fail
  exact bodyPost_ret (v := .tuple #[.agg #[.int .i64 0, .int .i64 0, .int .i64 0, .int .i64 0], .int .i64 E]) (by simp [results, Try.results11, go_sem, j0, j1, j2, j3]) rfl ⟨rfl, below_far4 G.out (Nat.le_refl _)⟩

set_option maxHeartbeats 1000000 in
set_option maxRecDepth 100000 in
theorem hullP_nil (s : Option Addr) (c : Nat) (w : World) :
    Calls Try.prog 11 #[.slice s 0 c] w fun e w' => e = .returned (.tuple #[.agg #[.int .i64 0, .int .i64 0, .int .i64 0, .int .i64 0], .int .i64 9]) ∧ Below w.heap.size w w' := by
  obtain ⟨w1, hw1⟩ : ∃ w1, w1 = w.alloc (.cells #[.int .i64 0, .int .i64 0, .int .i64 0, .int .i64 0] 25) := ⟨_, rfl⟩
  have H1 := Lib.hid (show Below w.heap.size w w1 by rw [hw1]; exact new_below _ _)
  have HQ := Lib.hid (show w1.heap[w.heap.size]? = some (.cells #[.int .i64 0, .int .i64 0, .int .i64 0, .int .i64 0] 25 (0, 0)) by rw [hw1]; exact zero_box)
  go_enter Try.func11, Try.ntmps11
  go_upto_region 1 with (fail)
  rw [← hw1]
  clear hw1
  go_wp2_with fail
  refine (checkBoxes_nil s c w1).mono ?_
  rintro e w2 ⟨rfl, hb2⟩
  have G := Lib.hid (below_step H1.out hb2)
  obtain ⟨⟨j0, j1, j2, j3⟩, f0, f1, f2, f3⟩ := block4 (below_block hb2 HQ.out)
  clear hb2
  go_wp2_with fail
  exact bodyPost_ret (v := .tuple #[.agg #[.int .i64 0, .int .i64 0, .int .i64 0, .int .i64 0], .int .i64 9]) (by simp [results, Try.results11, go_sem, j0, j1, j2, j3]) rfl ⟨rfl, below_far4 G.out (Nat.le_refl _)⟩

theorem set_agg2 {wx : World} {b : Nat} {x y x' y' : Value} {t : TypeId} (h : wx.heap[b]? = some (.cells #[x, y] t (0, 0))) :
    ((wx.setCell ⟨b, 0, none⟩ x').setCell ⟨b, 1, none⟩ y').heap[b]? = some (.cells #[x', y'] t (0, 0)) := by
  have e1 := heap_setB h (o := 0) (v := x')
  have e2 := heap_setB e1 (o := 1) (v := y')
  simpa using e2
theorem heap_setB' {w : World} {b c o : Nat} {v : Value} {x : Obj} (hne : b ≠ c) (h : w.heap[b]? = some x) : (w.setCell ⟨c, o, none⟩ v).heap[b]? = some x := (Below.heap_setCell _ _ _ _ hne).trans h
theorem below_in {N : Nat} {a w w' : World} (h : Below N a w) (hb : Below w.heap.size w w') (hN : N ≤ w.heap.size) : Below N a w' := h.trans (hb.mono hN)
theorem heap_at {w : World} {b : Nat} {o : Obj} (h : w.heap.size = b) : (w.alloc o).heap[b]? = some o := by subst h; exact heap_alloc_new w o
theorem heap_down {w : World} {b : Nat} {o x : Obj} (h : w.heap[b]? = some x) : (w.alloc o).heap[b]? = some x := below_block (new_below w o) h
theorem block2 {w : World} {b : Nat} {x y : Value} {t : TypeId} (h : w.heap[b]? = some (.cells #[x, y] t (0, 0))) :
    w.cell? ⟨b, 0, none⟩ = some x ∧ w.cell? ⟨b, 1, none⟩ = some y ∧ w.frozen? ⟨b, 0, none⟩ = false ∧ w.frozen? ⟨b, 1, none⟩ = false :=
  ⟨by rw [cell_of_row w b 0 _ t (0, 0) h]; rfl, by rw [cell_of_row w b 1 _ t (0, 0) h]; rfl, frozen_of_row w b 0 _ t h, frozen_of_row w b 1 _ t h⟩

/-- Two spans in memory. -/
structure Spans2 (N cb rb : Nat) (P Q : Int × Int) (w1 wx : World) : Prop where
  c : wx.heap[cb]? = some (.cells #[.int .i64 P.1, .int .i64 P.2] 96 (0, 0))
  r : wx.heap[rb]? = some (.cells #[.int .i64 Q.1, .int .i64 Q.2] 96 (0, 0))
  b : Below N w1 wx
  ne : cb ≠ rb
  lc : N ≤ cb
  lr : N ≤ rb

set_option maxHeartbeats 2000000 in
set_option maxRecDepth 100000 in
theorem hullP_ok (n g o c : Nat) (B : Nat → Bx) (w : World) (hn1 : 1 ≤ n) (hn : n ≤ 100000) (hB : BoxesAt w g o n B) (hOK : ∀ i, i < n → (B i).OK) (h : listErr B n = 0) :
    Calls Try.prog 11 #[.slice (some ⟨g, o, none⟩) n c] w fun e w' =>
      e = .returned (.tuple #[.agg #[.int .i64 (hullX B n).1, .int .i64 (hullY B n).1, .int .i64 ((hullX B n).2 - (hullX B n).1), .int .i64 ((hullY B n).2 - (hullY B n).1)], .int .i64 0]) ∧ Below w.heap.size w w' := by
  obtain ⟨w1, hw1⟩ : ∃ w1, w1 = w.alloc (.cells #[.int .i64 0, .int .i64 0, .int .i64 0, .int .i64 0] 25) := ⟨_, rfl⟩
  have B1 : Below w.heap.size w w1 := by rw [hw1]; exact new_below _ _
  have qb : w1.heap[w.heap.size]? = some (.cells #[.int .i64 0, .int .i64 0, .int .i64 0, .int .i64 0] 25 (0, 0)) := by rw [hw1]; exact zero_box
  have HB := Lib.hid (hB.later B1)
  have H1 := Lib.hid B1
  have HQ := Lib.hid qb
  have HX := Lib.hid (hullX_ok hn1 hOK)
  have HY := Lib.hid (hullY_ok hn1 hOK)
  have HO := Lib.hid hOK
  have HE := Lib.hid h
  have HG := Lib.hid (show g < w.heap.size by
    have := World.block_lt_of_cell? _ _ (hB 0 hn1).1.1
    simpa using this)
  have i1 : (0 : Int) < (n : Int) := by omega
  have i2 : ((n : Int) == 0) = false := by simp; omega
  clear hB B1 qb h hOK
  go_enter Try.func11, Try.ntmps11
  go_upto_region 1 with (fail)
  rw [← hw1]
  clear hw1
  go_wp2_with fail
  refine (checkBoxes_any n g o c B w1 hn HB.out).mono ?_
  rintro e w2 ⟨rfl, hb2⟩
  rw [HE.out]
  have G2 := Lib.hid (below_step H1.out hb2)
  have HQ2 := Lib.hid (below_block hb2 HQ.out)
  have HB2 := Lib.hid (HB.out.later hb2)
  clear hb2
  go_upto_region 6 with (fail)
  obtain ⟨⟨c0, c1⟩, c2, c3⟩ := HB2.out 0 hn1
  rw [Nat.zero_mul, Nat.add_zero] at c0 c1 c2 c3
  have HO0 := Lib.hid (HO.out 0 hn1)
  have HC := Lib.hid (show (-2000000 ≤ (B 0).x ∧ (B 0).x ≤ 2000000) ∧ (0 ≤ (B 0).w ∧ (B 0).w ≤ 2000000) by have := HO0.out; unfold Bx.OK BxOK at this; omega)
  have HR := Lib.hid (show (-2000000 ≤ (B 0).y ∧ (B 0).y ≤ 2000000) ∧ (0 ≤ (B 0).h ∧ (B 0).h ≤ 2000000) by have := HO0.out; unfold Bx.OK BxOK at this; omega)
  have EX := Lib.hid (show hullX B 0 = ((B 0).x, (B 0).x + (B 0).w) from rfl)
  have EY := Lib.hid (show hullY B 0 = ((B 0).y, (B 0).y + (B 0).h) from rfl)
  generalize B 0 = b0 at *
  obtain ⟨X, Y, U, V⟩ := b0
  simp only at c0 c1 c2 c3
  have i3 : 0 < n := hn1
  have hgl : g < w2.heap.size := by
    have := World.block_lt_of_cell? _ _ c0
    simpa using this
  have ne1 : w2.heap.size ≠ g := by omega
  have ne2 : w2.heap.size + 1 ≠ g := by omega
  have ne3 : w2.heap.size + 1 + 1 ≠ g := by omega
  have ne1' : g ≠ w2.heap.size := by omega
  have ne2' : g ≠ w2.heap.size + 1 := by omega
  have ne3' : g ≠ w2.heap.size + 1 + 1 := by omega
  have HS4 := Lib.hid (fun wx (hb : Below w2.heap.size w2 wx) => And.intro (cell_later hb c0) (And.intro (cell_later hb c1) (And.intro (cell_later hb c2) (cell_later hb c3))))
  go_cut [5, 6] from 19 to 27 (fun t5 t6 wx => ∃ cb rb : Nat, t5 = .pointer (some ⟨cb, 0, none⟩) ∧ t6 = .pointer (some ⟨rb, 0, none⟩) ∧ Hid (Spans2 (w.heap.size + 1) cb rb (hullX B 0) (hullY B 0) w2 wx))
  case first =>
    go_region_held3 (fun w' => w'.cell? ⟨g, o, none⟩ = some (.int .i64 X) ∧ w'.cell? ⟨g, o + 1, none⟩ = some (.int .i64 Y) ∧ w'.cell? ⟨g, o + 2, none⟩ = some (.int .i64 U) ∧ w'.cell? ⟨g, o + 3, none⟩ = some (.int .i64 V))
      (first | (go_keep; done) | (refine HS4.out _ ?_; (repeat (first | with_reducible exact Below.refl _ _ | with_reducible assumption | with_reducible refine below_alloc ?_ _ | with_reducible refine Below.drew ?_ | with_reducible refine below_step ?_ (by assumption))); done) | (trace_state; fail))
      ((first | (go_at_call 51; ((with_reducible refine (spanC_exact X Y U V _ HC.out.1 HC.out.2).mono ?_); rintro e wa ⟨rfl, rfl⟩)) | (go_at_call 52; ((with_reducible refine (spanR_exact X Y U V _ HR.out.1 HR.out.2).mono ?_); rintro e wb ⟨rfl, rfl⟩))))
    all_goals
      go_wp2_with fail
      go_meet
      case rel =>
        refine ⟨_, _, rfl, rfl, Lib.hid ⟨?_, ?_, ?_, ?_, ?_, ?_⟩⟩
        · rw [EX.out]; (repeat (first | (refine heap_at ?_; (first | rfl | (simp; done) | omega)) | refine heap_down ?_))
        · rw [EY.out]; (repeat (first | (refine heap_at ?_; (first | rfl | (simp; done) | omega)) | refine heap_down ?_))
        · refine Below.mono ?_ (show w.heap.size + 1 ≤ w2.heap.size from (Array.getElem?_eq_some_iff.1 HQ2.out).1)
          (repeat (first | with_reducible exact Below.refl _ _ | with_reducible assumption | with_reducible refine below_alloc ?_ _ | with_reducible refine Below.drew ?_ | with_reducible refine below_step ?_ (by assumption)))
        · (first | omega | (simp; done) | (simp; omega))
        · have := (Array.getElem?_eq_some_iff.1 HQ2.out).1
          (first | omega | (simp; done) | (simp; omega))
        · have := (Array.getElem?_eq_some_iff.1 HQ2.out).1
          (first | omega | (simp; done) | (simp; omega))
  case rest =>
    obtain ⟨w4, rfl⟩ : ∃ w4, w4 = wc := ⟨_, rfl⟩
    obtain ⟨cb, rb, rfl, rfl, HF⟩ := hcut
    clear c0 c1 c2 c3 HO0 HC HR EX EY hgl ne1 ne2 ne3 ne1' ne2' ne3' HS4
    have NE := HF.out.ne
    have NE' := HF.out.ne.symm
    go_wp2_with fail
    go_loopw [29] (fun i wr => ∃ k : Nat, k ≤ n ∧ i = .int .i64 k ∧ Hid (Spans2 (w.heap.size + 1) cb rb (hullX B k) (hullY B k) w2 wr)) (fun i _ => n - (intOf i).toNat)
    case atStart => exact ⟨0, Nat.zero_le _, rfl, HF⟩
    case round =>
      obtain ⟨k, hk, rfl, HR⟩ := hrel
      clear HF
      by_cases hlt : k < n
      · have j1 : (k : Int) < (n : Int) := by omega
        have hgw := HG.out
        obtain ⟨⟨c0, c1⟩, c2, c3⟩ := HB2.out k hlt
        have hcell : ∀ {a : Nat} {v : Value}, w2.cell? ⟨g, a, none⟩ = some v → wr.cell? ⟨g, a, none⟩ = some v := fun {a v} h => (HR.out.b.cell (p := ⟨g, a, none⟩) (show g < w.heap.size + 1 by omega)).trans h
        have c0 := hcell c0
        have c1 := hcell c1
        have c2 := hcell c2
        have c3 := hcell c3
        have ok := HO.out k hlt
        have hx := HX.out k hk
        have hy := HY.out k hk
        have sX : hullX B (k + 1) = (min (hullX B k).1 (B k).x, max (hullX B k).2 ((B k).x + (B k).w)) := rfl
        have sY : hullY B (k + 1) = (min (hullY B k).1 (B k).y, max (hullY B k).2 ((B k).y + (B k).h)) := rfl
        have HS2 := Lib.hid (And.intro sX sY)
        unfold Bx.OK BxOK at ok
        clear hcell sX sY hgw
        have HC := HR.out.c
        have HRr := HR.out.r
        have HBl := Lib.hid HR.out.b
        have lc := (Array.getElem?_eq_some_iff.1 HC).1
        have lr := (Array.getElem?_eq_some_iff.1 HRr).1
        have LL := Lib.hid (And.intro HR.out.lc HR.out.lr)
        clear HR
        generalize hullX B k = P at hx HS2 HC
        generalize hullY B k = Q at hy HS2 HRr
        generalize B k = b at *
        obtain ⟨p1, p2⟩ := P
        obtain ⟨q1, q2⟩ := Q
        obtain ⟨X, Y, U, V⟩ := b
        simp only at *
        have C1 := Lib.hid (show (-2000000 ≤ X ∧ X ≤ 2000000) ∧ (0 ≤ U ∧ U ≤ 2000000) by omega)
        have C2 := Lib.hid (show (-2000000 ≤ Y ∧ Y ≤ 2000000) ∧ (0 ≤ V ∧ V ≤ 2000000) by omega)
        clear ok hx hy
        go_upto_region 10 with (fail)
        obtain ⟨w3, hw3⟩ : ∃ w3, w3 = wr.alloc (.cells #[.int .i64 X, .int .i64 Y, .int .i64 U, .int .i64 V] 25) := ⟨_, rfl⟩
        have hb3 : Below wr.heap.size wr w3 := by rw [hw3]; exact new_below _ _
        have x3 : w3.heap[wr.heap.size]? = some (.cells #[.int .i64 X, .int .i64 Y, .int .i64 U, .int .i64 V] 25 (0, 0)) := by rw [hw3]; exact heap_alloc_new _ _
        rw [← hw3]
        clear hw3 c0 c1 c2 c3
        have HC3 := below_block hb3 HC
        have HR3 := below_block hb3 HRr
        obtain ⟨bb, hbb⟩ : ∃ bb, bb = wr.heap.size := ⟨_, rfl⟩
        rw [← hbb] at x3 ⊢
        have n1 : cb ≠ bb := by omega
        have n2 : rb ≠ bb := by omega
        have n1' : bb ≠ cb := by omega
        have n2' : bb ≠ rb := by omega
        have B3 := Lib.hid (HBl.out.trans (hb3.mono (show w.heap.size + 1 ≤ wr.heap.size by have := LL.out; omega)))
        clear hb3 HC HRr hbb
        obtain ⟨⟨d0, d1, d2, d3⟩, _, _, _, _⟩ := block4 x3
        obtain ⟨k0, k1, f0, f1⟩ := block2 HC3
        obtain ⟨k2, k3, f2, f3⟩ := block2 HR3
        have lb3 := (Array.getElem?_eq_some_iff.1 x3).1
        have lc3 := (Array.getElem?_eq_some_iff.1 HC3).1
        have lr3 := (Array.getElem?_eq_some_iff.1 HR3).1
        go_cut [] from 33 to 37 (fun wx => Hid (wx.heap[cb]? = some (.cells #[.int .i64 (min p1 X), .int .i64 (max p2 (X + U))] 96 (0, 0)) ∧ wx.heap[rb]? = some (.cells #[.int .i64 q1, .int .i64 q2] 96 (0, 0)) ∧
            wx.heap[bb]? = some (.cells #[.int .i64 X, .int .i64 Y, .int .i64 U, .int .i64 V] 25 (0, 0)) ∧ Below (w.heap.size + 1) w2 wx))
        case first =>
          go_region_law ((first | (go_simp; go_at_call 51; ((with_reducible refine (spanC_any X Y U V _ C1.out.1 C1.out.2).mono ?_); rintro e wa ⟨rfl, ha⟩; have hc := below_block ha (show w3.drew.heap[cb]? = _ from HC3); have hr := below_block ha (show w3.drew.heap[rb]? = _ from HR3); have hx := below_block ha (show w3.drew.heap[bb]? = _ from x3); obtain ⟨k0a, k1a, f0a, f1a⟩ := block2 hc; obtain ⟨k2a, k3a, f2a, f3a⟩ := block2 hr; obtain ⟨⟨d0a, d1a, d2a, d3a⟩, _, _, _, _⟩ := block4 hx)) | (go_simp; go_at_call 53; ((with_reducible refine (over_any _ _ _ _ _).mono ?_); rintro e wb ⟨rfl, hb⟩; have hc2 := below_block hb hc; have hr2 := below_block hb hr; have hx2 := below_block hb hx; obtain ⟨k0b, k1b, f0b, f1b⟩ := block2 hc2; obtain ⟨k2b, k3b, f2b, f3b⟩ := block2 hr2))))
          all_goals
            go_wp2_with fail
            go_meet
            case rel =>
              refine Lib.hid ⟨set_agg2 hc2, (heap_setB' NE' (heap_setB' NE' hr2)), (heap_setB' n1' (heap_setB' n1' hx2)), ?_⟩
              exact ((below_in B3.out (below_step (below_step (Below.refl w3.heap.size w3).drew ha) hb) (by have := LL.out; omega)).setCell LL.out.1 _).setCell LL.out.1 _
        case rest =>
          obtain ⟨w5, rfl⟩ : ∃ w5, w5 = wc := ⟨_, rfl⟩
          obtain ⟨C5, R5, X5, B5⟩ := hcut.out
          have HB5 := Lib.hid B5
          clear hcut B5 HC3 HR3 x3 d0 d1 d2 d3 k0 k1 k2 k3 f0 f1 f2 f3 lb3 lc3 lr3 B3
          obtain ⟨⟨d0, d1, d2, d3⟩, _, _, _, _⟩ := block4 X5
          obtain ⟨k0, k1, f0, f1⟩ := block2 C5
          obtain ⟨k2, k3, f2, f3⟩ := block2 R5
          have lb3 := (Array.getElem?_eq_some_iff.1 X5).1
          have lc3 := (Array.getElem?_eq_some_iff.1 C5).1
          have lr3 := (Array.getElem?_eq_some_iff.1 R5).1
          go_wp2_with fail
          go_region_law ((first | (go_simp; go_at_call 52; ((with_reducible refine (spanR_any X Y U V _ C2.out.1 C2.out.2).mono ?_); rintro e wa ⟨rfl, ha⟩; have hc := below_block ha (show w5.drew.heap[cb]? = _ from C5); have hr := below_block ha (show w5.drew.heap[rb]? = _ from R5); have hx := below_block ha (show w5.drew.heap[bb]? = _ from X5); obtain ⟨k0a, k1a, f0a, f1a⟩ := block2 hc; obtain ⟨k2a, k3a, f2a, f3a⟩ := block2 hr; obtain ⟨⟨d0a, d1a, d2a, d3a⟩, _, _, _, _⟩ := block4 hx)) | (go_simp; go_at_call 53; ((with_reducible refine (over_any _ _ _ _ _).mono ?_); rintro e wb ⟨rfl, hb⟩; have hc2 := below_block hb hc; have hr2 := below_block hb hr; have hx2 := below_block hb hx; obtain ⟨k0b, k1b, f0b, f1b⟩ := block2 hc2; obtain ⟨k2b, k3b, f2b, f3b⟩ := block2 hr2))))
          all_goals
            go_wp2_with fail
            go_roundw
            case rel =>
              refine ⟨k + 1, by omega, by go_num, Lib.hid ⟨?_, ?_, ?_, NE, LL.out.1, LL.out.2⟩⟩
              · rw [HS2.out.1]
                exact heap_setB' NE (heap_setB' NE hc2)
              · rw [HS2.out.2]
                exact set_agg2 hr2
              · exact ((below_in HB5.out (below_step (below_step (Below.refl w5.heap.size w5).drew ha) hb) (by have := LL.out; omega)).setCell LL.out.2 _).setCell LL.out.2 _
            case measure => simp [intOf]; omega
      · obtain rfl : k = n := by omega
        have HX9 := HX.out k (Nat.le_refl _)
        have HY9 := HY.out k (Nat.le_refl _)
        have K1 := Lib.hid (show (-5000000 ≤ (hullX B k).1 ∧ (hullX B k).1 ≤ 5000000) ∧ (-5000000 ≤ (hullX B k).2 ∧ (hullX B k).2 ≤ 5000000) by omega)
        have K2 := Lib.hid (show (-5000000 ≤ (hullY B k).1 ∧ (hullY B k).1 ≤ 5000000) ∧ (-5000000 ≤ (hullY B k).2 ∧ (hullY B k).2 ≤ 5000000) by omega)
        obtain ⟨k0, k1, f0, f1⟩ := block2 HR.out.c
        obtain ⟨k2, k3, f2, f3⟩ := block2 HR.out.r
        have QR := Lib.hid ((HR.out.b.block w.heap.size (by omega)).trans HQ2.out)
        have GR := Lib.hid (G2.out.trans (HR.out.b.mono (show w.heap.size ≤ w.heap.size + 1 by omega)))
        clear HX9 HY9
        go_wp2_with fail
        refine (boxOf_any _ _ _ _ wr K1.out K2.out).mono ?_
        rintro e w7 ⟨rfl, hb7⟩
        obtain ⟨⟨j0, j1, j2, j3⟩, g0, g1, g2, g3⟩ := block4 (below_block hb7 QR.out)
        have G := Lib.hid (below_step GR.out hb7)
        clear hb7 k0 k1 k2 k3 f0 f1 f2 f3
        go_wp2_with fail
        exact bodyPost_ret (v := .tuple #[.agg #[.int .i64 (hullX B k).1, .int .i64 (hullY B k).1, .int .i64 ((hullX B k).2 - (hullX B k).1), .int .i64 ((hullY B k).2 - (hullY B k).1)], .int .i64 0]) (by simp [results, Try.results11, go_sem, j0, j1, j2, j3]) rfl ⟨rfl, below_far4 G.out (Nat.le_refl _)⟩

end Go.Proofs.Ytljjbdfpegjmcaa
