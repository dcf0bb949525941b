/-
  Units of Code 39: all letters.
-/
import Derived.Test.YthcmolhjncdnaaaDoorDwV
import Derived.Deep.RegionLaw
namespace Go.Proofs.YthcmolhjncdnaaaDoor
open Go.RowKit
set_option linter.unusedSimpArgs false
set_option linter.unusedVariables false

theorem unL_congr {K K' : Nat → Nat} {n : Nat} (h : ∀ j, j < n → K j = K' j) : unL K n = unL K' n := by
  induction n with
  | zero => rfl
  | succ n ih => rw [unL, unL, ih (fun j hj => h j (by omega)), h n (by omega)]
/-- The modules of the letter that begins at b. -/
def letC (L : Nat → Int) (b : Nat) : List UInt8 := unL (fun j => if wideB L b j then 3 else 1) 9
theorem letC_of (L : Nat → Int) (b : Nat) : unL (mdK ⟨(pcRow L b 9).toArray⟩) 9 = letC L b := by
  refine unL_congr (fun j hj => ?_)
  have : byteAt ⟨(pcRow L b 9).toArray⟩ j = ((pcByte L b j).toNat : Int) := by
    unfold byteAt
    simp [pcRow, List.getD, hj]
  unfold mdK
  rw [this]
  unfold pcByte
  by_cases h : wideB L b j = true
  · simp [h]
  · simp [h]
theorem pcRow_size (L : Nat → Int) (b k : Nat) : (⟨(pcRow L b k).toArray⟩ : ByteArray).size = 9 := by show (pcRow L b k).toArray.size = 9; simp [pcRow]

theorem letter_any (g o c b : Nat) (L : Nat → Int) (w : World) (hL : ∀ j, j < 9 → 1 ≤ L (b + j) ∧ L (b + j) ≤ 4000) (hp : ∀ j, j < 9 → w.cell? ⟨g, o + j, none⟩ = some (.int .i64 (L (b + j)))) (wx : World) :
    Calls Tryd.prog 54 #[.string ⟨(pcRow L b 9).toArray⟩] wx fun e w' => e = .returned (.string ⟨(letC L b).toArray⟩) ∧ Below wx.heap.size wx w' := by
  have := modulesOf_any ⟨(pcRow L b 9).toArray⟩ wx (by rw [pcRow_size]; omega) (by rw [pcRow_size]; omega)
  rw [pcRow_size, letC_of] at this
  exact this

theorem info_strU : (Tryd.prog.info? 9).map (fun i => (i.zero, i.size, i.bytes)) = some (some (.string ⟨#[]⟩), 1, 16) := by kernel_rfl

def codeAt (L : Nat → Int) (i : Nat) : ByteArray := ⟨(letC L (10 * i)).toArray⟩
def codesV (L : Nat → Int) (m k : Nat) : List Value := (List.range m).map fun i => Value.string (if i < k then codeAt L i else ⟨#[]⟩)
theorem codesV_set (L : Nat → Int) (m k : Nat) (hk : k < m) : (codesV L m k).set k (.string (codeAt L k)) = codesV L m (k + 1) := by
  apply List.ext_getElem?
  intro i
  rw [List.getElem?_set]
  by_cases hi : i < m
  · by_cases e : k = i
    · subst e
      simp [codesV, hk]
    · rw [if_neg e]
      simp only [codesV, List.getElem?_map, List.getElem?_range hi, Option.map_some]
      by_cases h2 : i < k
      · rw [if_pos h2, if_pos (by omega)]
      · rw [if_neg h2, if_neg (by omega)]
  · rw [if_neg (by omega)]
    simp [codesV, hi]

/-- How many modules each run has as Code 39. -/
def k39 (L : Nat → Int) (i : Nat) : Nat := if i % 10 = 9 then 1 else if wideB L (i - i % 10) (i % 10) then 3 else 1
theorem k39_le (L : Nat → Int) (i : Nat) : 1 ≤ k39 L i ∧ k39 L i ≤ 4 := by unfold k39; split; omega; split <;> omega
theorem unL_add (K : Nat → Nat) (a b : Nat) (ha : a % 2 = 0) : unL K (a + b) = unL K a ++ unL (fun j => K (a + j)) b := by
  induction b with
  | zero => simp [unL]
  | succ b ih =>
    rw [Nat.add_succ, unL, ih, unL, List.append_assoc]
    have : unB (a + b) = unB b := by unfold unB; rw [show (a + b) % 2 = b % 2 by omega]
    rw [this]
theorem k39_letter (L : Nat → Int) (i : Nat) : unL (fun j => k39 L (10 * i + j)) 9 = letC L (10 * i) := by
  refine unL_congr (fun j hj => ?_)
  unfold k39
  rw [if_neg (by omega), show 10 * i + j - (10 * i + j) % 10 = 10 * i by omega, show (10 * i + j) % 10 = j by omega]
theorem k39_all (L : Nat → Int) (m : Nat) : unL (k39 L) (10 * m + 9) = Lib.join ((List.range (m + 1)).map (fun i => letC L (10 * i))) [48] := by
  rw [List.range_succ_eq_map, List.map_cons, Lib.join_cons]
  induction m with
  | zero =>
    have := k39_letter L 0
    simpa [Lib.joinTail] using this
  | succ m ih =>
    rw [show 10 * (m + 1) + 9 = 10 * m + 9 + 1 + 9 by omega, unL_add (k39 L) (10 * m + 9 + 1) 9 (by omega), unL, ih]
    have h1 : k39 L (10 * m + 9) = 1 := by unfold k39; rw [if_pos (by omega)]
    have h2 : unB (10 * m + 9) = 48 := by unfold unB; rw [if_pos (by omega)]
    have h3 : unL (fun j => k39 L (10 * m + 9 + 1 + j)) 9 = letC L (10 * (m + 1)) := by
      have := k39_letter L (m + 1)
      rw [show 10 * (m + 1) = 10 * m + 9 + 1 by omega] at this ⊢
      exact this
    rw [h1, h2, h3]
    rw [List.range_succ (n := m)]
    simp [Lib.joinTail, List.append_assoc]

end Go.Proofs.YthcmolhjncdnaaaDoor
