/-
  Plain mathematics of pasting: which places of a page another page comes to, and the page while it is pasted.
-/
import Derived.Test.YtejhmobpepllcaaPasteA
namespace Go.Proofs.Ytejhmobpepllcaa
open Go.RowKit
set_option linter.unusedSimpArgs false
set_option linter.unusedVariables false

/-- From f to t a side of length S that begins at x lies in a side of length W, and nothing else of it does. -/
def OvOK (W S : Nat) (x : Int) (f t : Nat) : Prop :=
  f ≤ t ∧ t ≤ 4000 ∧ (∀ i : Nat, f ≤ i → i < t → i < S ∧ 0 ≤ x + i ∧ x + i < W) ∧ ∀ a : Nat, a < W → 0 ≤ (a : Int) - x → (a : Int) - x < S → (f : Int) ≤ a - x ∧ (a : Int) - x < t

theorem overlap_any (W S : Nat) (x : Int) (w : World) (hW : 1 ≤ W ∧ W ≤ 4000) (hS : 1 ≤ S ∧ S ≤ 4000) :
    Calls Try.prog 122 #[.int .i64 W, .int .i64 S, .int .i64 x] w fun e w' => ∃ f t : Nat, e = .returned (.tuple #[.int .i64 f, .int .i64 t]) ∧ OvOK W S x f t ∧ w = w' := by
  by_cases h : (W : Int) ≤ x ∨ x ≤ - (S : Int)
  · refine (overlap_far W S x w (by omega) (by omega) h).mono ?_
    rintro e w' ⟨rfl, rfl⟩
    refine ⟨0, 0, rfl, ⟨Nat.le_refl _, by omega, fun i h1 h2 => by omega, fun a h1 h2 h3 => by omega⟩, rfl⟩
  · refine (overlap_near W S x w (by omega) (by omega) (by omega) (by omega)).mono ?_
    rintro e w' ⟨rfl, rfl⟩
    obtain ⟨f, hf⟩ := Int.eq_ofNat_of_zero_le (show 0 ≤ max (-x) 0 by omega)
    obtain ⟨t, ht⟩ := Int.eq_ofNat_of_zero_le (show 0 ≤ min (S : Int) (W - x) by omega)
    refine ⟨f, t, by rw [hf, ht], ⟨by omega, by omega, fun i h1 h2 => by omega, fun a h1 h2 h3 => by omega⟩, rfl⟩

/-- The place (a, b) lies in the other page. -/
def InC (Wc Hc : Nat) (x y : Int) (a b : Nat) : Prop := (0 ≤ (a : Int) - x ∧ (a : Int) - x < Wc) ∧ (0 ≤ (b : Int) - y ∧ (b : Int) - y < Hc)
instance (Wc Hc : Nat) (x y : Int) (a b : Nat) : Decidable (InC Wc Hc x y a b) := by unfold InC; infer_instance

/-- A place of the page with the other one pasted. -/
def pasteAt (W Wc Hc : Nat) (x y : Int) (z1 z2 : Nat → Bool) (a b : Nat) : Bool :=
  z1 (b * W + a) || (decide (InC Wc Hc x y a b) && z2 (((b : Int) - y).toNat * Wc + ((a : Int) - x).toNat))

/-- .. when rows before j and places before i of row j have been pasted. -/
def pasteVal (W Wc Hc : Nat) (x y : Int) (z1 z2 : Nat → Bool) (j i k : Nat) : Bool :=
  z1 k || (decide (InC Wc Hc x y (k % W) (k / W) ∧ ((((k / W : Nat) : Int) - y < j) ∨ (((k / W : Nat) : Int) - y = j ∧ ((k % W : Nat) : Int) - x < i))) && z2 ((((k / W : Nat) : Int) - y).toNat * Wc + (((k % W : Nat) : Int) - x).toNat))

def pasteList (W n Wc Hc : Nat) (x y : Int) (z1 z2 : Nat → Bool) (j i : Nat) : List Value := (List.range n).map fun k => Value.bool (pasteVal W Wc Hc x y z1 z2 j i k)

theorem divmod_wh {W H k : Nat} (hW : 1 ≤ W) (hk : k < W * H) : k % W < W ∧ k / W < H :=
  ⟨Nat.mod_lt _ (by omega), Nat.div_lt_of_lt_mul hk⟩

theorem pasteList_start (W H Wc Hc : Nat) (x y : Int) (z1 z2 : Nat → Bool) (fx tx fy ty : Nat) (hW : 1 ≤ W) (hx : OvOK W Wc x fx tx) (hy : OvOK H Hc y fy ty) :
    pasteList W (W * H) Wc Hc x y z1 z2 fy fx = (List.range (W * H)).map fun k => Value.bool (z1 k) := by
  unfold pasteList
  apply List.map_congr_left
  intro k hk
  have hk' : k < W * H := by simpa using hk
  obtain ⟨m1, m2⟩ := divmod_wh hW hk'
  have : ¬ (InC Wc Hc x y (k % W) (k / W) ∧ ((((k / W : Nat) : Int) - y < fy) ∨ (((k / W : Nat) : Int) - y = fy ∧ ((k % W : Nat) : Int) - x < fx))) := by
    rintro ⟨⟨⟨c1, c2⟩, ⟨c3, c4⟩⟩, h⟩
    have h1 := hx.2.2.2 _ m1 c1 c2
    have h2 := hy.2.2.2 _ m2 c3 c4
    omega
  unfold pasteVal
  rw [decide_eq_false this]
  simp

theorem pasteList_row (W H Wc Hc : Nat) (x y : Int) (z1 z2 : Nat → Bool) (fx tx j : Nat) (hW : 1 ≤ W) (hx : OvOK W Wc x fx tx) :
    pasteList W (W * H) Wc Hc x y z1 z2 j tx = pasteList W (W * H) Wc Hc x y z1 z2 (j + 1) fx := by
  unfold pasteList
  apply List.map_congr_left
  intro k hk
  have hk' : k < W * H := by simpa using hk
  obtain ⟨m1, m2⟩ := divmod_wh hW hk'
  have : (InC Wc Hc x y (k % W) (k / W) ∧ ((((k / W : Nat) : Int) - y < j) ∨ (((k / W : Nat) : Int) - y = j ∧ ((k % W : Nat) : Int) - x < tx))) ↔ (InC Wc Hc x y (k % W) (k / W) ∧ ((((k / W : Nat) : Int) - y < (j + 1 : Nat)) ∨ (((k / W : Nat) : Int) - y = (j + 1 : Nat) ∧ ((k % W : Nat) : Int) - x < fx))) := by
    constructor
    · rintro ⟨hc, h⟩
      exact ⟨hc, by omega⟩
    · rintro ⟨hc, h⟩
      have h1 := hx.2.2.2 _ m1 hc.1.1 hc.1.2
      exact ⟨hc, by omega⟩
  unfold pasteVal
  rw [decide_eq_decide.2 this]

theorem pasteList_end (W H Wc Hc : Nat) (x y : Int) (z1 z2 : Nat → Bool) (fx fy ty : Nat) (hW : 1 ≤ W) (hy : OvOK H Hc y fy ty) (k : Nat) (hk : k < W * H) :
    pasteVal W Wc Hc x y z1 z2 ty fx k = pasteAt W Wc Hc x y z1 z2 (k % W) (k / W) := by
  obtain ⟨m1, m2⟩ := divmod_wh hW hk
  have : (InC Wc Hc x y (k % W) (k / W) ∧ ((((k / W : Nat) : Int) - y < ty) ∨ (((k / W : Nat) : Int) - y = ty ∧ ((k % W : Nat) : Int) - x < fx))) ↔ InC Wc Hc x y (k % W) (k / W) := by
    constructor
    · exact fun h => h.1
    · intro hc
      have h2 := hy.2.2.2 _ m2 hc.2.1 hc.2.2
      exact ⟨hc, by omega⟩
  unfold pasteVal pasteAt
  rw [decide_eq_decide.2 this, show k / W * W + k % W = k by rw [Nat.mul_comm]; exact Nat.div_add_mod k W]

theorem pasteList_step (W H Wc Hc : Nat) (x y : Int) (z1 z2 : Nat → Bool) (j i a b : Nat) (hW : 1 ≤ W) (ha : (a : Int) = x + i) (hb : (b : Int) = y + j) (haW : a < W) (hbH : b < H) (hi : i < Wc) (hj : j < Hc) :
    pasteList W (W * H) Wc Hc x y z1 z2 j (i + 1) = if z2 (j * Wc + i) = true then (pasteList W (W * H) Wc Hc x y z1 z2 j i).set (b * W + a) (.bool true) else pasteList W (W * H) Wc Hc x y z1 z2 j i := by
  have hdm : (b * W + a) / W = b ∧ (b * W + a) % W = a := by
    rw [Nat.mul_comm]
    exact ⟨by rw [Nat.mul_add_div (by omega), Nat.div_eq_of_lt haW, Nat.add_zero], by rw [Nat.mul_add_mod, Nat.mod_eq_of_lt haW]⟩
  have key : ∀ k, k < W * H → pasteVal W Wc Hc x y z1 z2 j (i + 1) k = if k = b * W + a then (pasteVal W Wc Hc x y z1 z2 j i k || z2 (j * Wc + i)) else pasteVal W Wc Hc x y z1 z2 j i k := by
    intro k hk
    obtain ⟨m1, m2⟩ := divmod_wh hW hk
    by_cases hkk : k = b * W + a
    · rw [if_pos hkk]
      subst hkk
      unfold pasteVal
      rw [hdm.1, hdm.2]
      have c1 : InC Wc Hc x y a b ∧ (((b : Int) - y < j) ∨ ((b : Int) - y = j ∧ (a : Int) - x < (i + 1 : Nat))) := ⟨⟨⟨by omega, by omega⟩, ⟨by omega, by omega⟩⟩, by omega⟩
      have c2 : ¬ (InC Wc Hc x y a b ∧ (((b : Int) - y < j) ∨ ((b : Int) - y = j ∧ (a : Int) - x < (i : Nat)))) := by rintro ⟨_, h⟩; omega
      rw [decide_eq_true c1, decide_eq_false c2, show ((b : Int) - y).toNat = j by omega, show ((a : Int) - x).toNat = i by omega]
      simp
    · rw [if_neg hkk]
      have : (InC Wc Hc x y (k % W) (k / W) ∧ ((((k / W : Nat) : Int) - y < j) ∨ (((k / W : Nat) : Int) - y = j ∧ ((k % W : Nat) : Int) - x < (i + 1 : Nat)))) ↔ (InC Wc Hc x y (k % W) (k / W) ∧ ((((k / W : Nat) : Int) - y < j) ∨ (((k / W : Nat) : Int) - y = j ∧ ((k % W : Nat) : Int) - x < i))) := by
        constructor
        · rintro ⟨hc, h⟩
          refine ⟨hc, ?_⟩
          rcases h with h | ⟨h1, h2⟩
          · exact .inl h
          · by_cases h3 : ((k % W : Nat) : Int) - x < i
            · exact .inr ⟨h1, h3⟩
            · exfalso
              apply hkk
              have e1 : k / W = b := by omega
              have e2 : k % W = a := by omega
              have := Nat.div_add_mod k W
              rw [e1, e2, Nat.mul_comm] at this
              omega
        · rintro ⟨hc, h⟩
          exact ⟨hc, by omega⟩
      unfold pasteVal
      rw [decide_eq_decide.2 this]
  by_cases hz : z2 (j * Wc + i) = true
  · rw [if_pos hz]
    apply List.ext_getElem
    · simp [pasteList]
    · intro k h1 h2
      have hk : k < W * H := by simpa [pasteList] using h1
      rw [List.getElem_set]
      simp only [pasteList, List.getElem_map, List.getElem_range]
      rw [key k hk]
      by_cases hkk : k = b * W + a
      · rw [if_pos hkk, if_pos hkk.symm, hz]; simp
      · rw [if_neg hkk, if_neg (fun e => hkk e.symm)]
  · rw [if_neg hz]
    have hz' : z2 (j * Wc + i) = false := by simpa using hz
    unfold pasteList
    apply List.map_congr_left
    intro k hk
    rw [key k (by simpa using hk)]
    by_cases hkk : k = b * W + a
    · rw [if_pos hkk, hz', Bool.or_false]
    · rw [if_neg hkk]

end Go.Proofs.Ytejhmobpepllcaa
