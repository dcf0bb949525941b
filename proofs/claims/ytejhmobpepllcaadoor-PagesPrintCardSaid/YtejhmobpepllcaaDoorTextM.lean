/-
  Plain mathematics: what is read of a text of a page.
-/
import Derived.Test.YtejhmobpepllcaaDoorTextC
namespace Go.Proofs.YtejhmobpepllcaaDoor
set_option linter.unusedSimpArgs false
set_option linter.unusedVariables false

/-- The first line of r is a row of w letters with a line feed behind it. -/
def lineB (w : Nat) (r : List UInt8) : Bool := decide (Lib.indexByte r 10 = (w : Int)) && rowB (r.take w)
/-- How many lines there are, all right; or the number of the first that is not. -/
def parseGo (w : Nat) : Nat → List UInt8 → Nat → Bool × Nat
  | 0, _, h => (true, h)
  | f + 1, r, h => if r.isEmpty then (true, h) else if lineB w r then parseGo w f (r.drop (w + 1)) (h + 1) else (false, h)
def pW (l : List UInt8) : Nat := (Lib.indexByte l 10).toNat
def pOut (l : List UInt8) : Bool × Nat := parseGo (pW l) (l.length + 1) l 0
def pErr (l : List UInt8) : Int :=
  if 40200 < l.length then 4 else if (pOut l).1 = false then 8 else if (pOut l).2 = 0 then 9 else if 200 < pW l ∨ 200 < (pOut l).2 then 4 else 0
def pAt (l : List UInt8) : Nat := if 40200 < l.length then 0 else if (pOut l).1 = false then (pOut l).2 else 0
def inkOf (l : List UInt8) (w x y : Nat) : Bool := decide (l.getD (y * (w + 1) + x) 0 = 35)

theorem parseGo_end {w f h : Nat} {r : List UInt8} (hr : r = []) : parseGo w (f + 1) r h = (true, h) := by rw [parseGo, if_pos (by rw [hr]; rfl)]
theorem parseGo_bad {w f h : Nat} {r : List UInt8} (hr : r ≠ []) (hl : lineB w r = false) : parseGo w (f + 1) r h = (false, h) := by
  rw [parseGo, if_neg (by simpa using hr), if_neg (by rw [hl]; decide)]
theorem parseGo_good {w f h : Nat} {r : List UInt8} (hr : r ≠ []) (hl : lineB w r = true) : parseGo w (f + 1) r h = parseGo w f (r.drop (w + 1)) (h + 1) := by
  rw [parseGo, if_neg (by simpa using hr), if_pos hl]
theorem rowB_ne {l : List UInt8} (h : rowB l = true) : l ≠ [] := by
  intro e; rw [e] at h; cases h

theorem indexByte_lt {l : List UInt8} {i : Nat} (h : Lib.indexByte l 10 = (i : Int)) : i < l.length := by
  have := (Lib.indexByte_some h).1
  exact (List.getElem?_eq_some_iff.1 this).1
theorem indexByte_cases (l : List UInt8) : Lib.indexByte l 10 = -1 ∨ ∃ i : Nat, Lib.indexByte l 10 = (i : Int) := by
  have := Lib.indexByte_ge l 10
  by_cases h : Lib.indexByte l 10 = -1
  · exact .inl h
  · exact .inr (Int.eq_ofNat_of_zero_le (by omega))

/-- A page that a function returns: none with an error; else W by H, its places in new memory. -/
def PgIs (E : Int) (a b : Nat) (f : Nat → Nat → Bool) (w : World) (i j : Int) (sl : Option Addr) (n' c' : Nat) : Prop :=
  (E ≠ 0 ∧ i = 0 ∧ j = 0 ∧ sl = none ∧ n' = 0 ∧ c' = 0) ∨
  (E = 0 ∧ i = (a : Int) ∧ j = (b : Int) ∧ n' = a * b ∧ ∃ g, sl = some ⟨g, 0, none⟩ ∧ ∀ k, k < n' → w.cell? ⟨g, 0 + k, none⟩ = some (.bool (f (k % a) (k / a))))

/-- Where the parse of a text ended well it has h rows of w letters each. -/
theorem pErr_large {l : List UInt8} (h : 40200 < l.length) : pErr l = 4 ∧ pAt l = 0 := by unfold pErr pAt; rw [if_pos h, if_pos h]; exact ⟨rfl, rfl⟩
theorem pErr_bad {l : List UInt8} {h : Nat} (h0 : ¬ 40200 < l.length) (ho : pOut l = (false, h)) : pErr l = 8 ∧ pAt l = h := by unfold pErr pAt; rw [if_neg h0, if_neg h0, ho]; exact ⟨rfl, rfl⟩
theorem pErr_empty {l : List UInt8} (h0 : ¬ 40200 < l.length) (ho : pOut l = (true, 0)) : pErr l = 9 ∧ pAt l = 0 := by unfold pErr pAt; rw [if_neg h0, if_neg h0, ho]; exact ⟨rfl, rfl⟩
theorem pErr_wide {l : List UInt8} {h : Nat} (h0 : ¬ 40200 < l.length) (ho : pOut l = (true, h)) (h1 : h ≠ 0) (h2 : 200 < pW l ∨ 200 < h) : pErr l = 4 ∧ pAt l = 0 := by
  unfold pErr pAt; rw [if_neg h0, if_neg h0, ho]; simp only []; rw [if_neg (by decide), if_neg h1, if_pos h2]; exact ⟨rfl, rfl⟩
theorem pErr_ok {l : List UInt8} {h : Nat} (h0 : ¬ 40200 < l.length) (ho : pOut l = (true, h)) (h1 : h ≠ 0) (h2 : ¬ (200 < pW l ∨ 200 < h)) : pErr l = 0 ∧ pAt l = 0 := by
  unfold pErr pAt; rw [if_neg h0, if_neg h0, ho]; simp only []; rw [if_neg (by decide), if_neg h1, if_neg h2]; exact ⟨rfl, rfl⟩

end Go.Proofs.YtejhmobpepllcaaDoor
