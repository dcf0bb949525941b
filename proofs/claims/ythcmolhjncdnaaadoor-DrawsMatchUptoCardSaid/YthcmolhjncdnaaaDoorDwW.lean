/-
  DrawsMatch, walked: Draw of any arguments.
-/
import Derived.Test.YthcmolhjncdnaaaDoorDwS
import Derived.Test.YthcmolhjncdnaaaDoorDwE
import Derived.Test.YthcmolhjncdnaaaDoorDwB
import Derived.Test.YthcmolhjncdnaaaDoorEqInt
namespace Go.Proofs.YthcmolhjncdnaaaDoor
open Go.RowKit
set_option linter.unusedSimpArgs false
set_option linter.unusedVariables false

/-- The page that Draw returns: none with an error, else the modules drawn. -/
def DrawnV (m : ByteArray) (u hh q : Int) (a b : Int) (ps : Option Addr) (pn pc : Nat) (w : World) : Prop :=
  (drawErr m u hh q ≠ 0 ∧ a = 0 ∧ b = 0 ∧ ps = none ∧ pn = 0 ∧ pc = 0) ∨
  (drawErr m u hh q = 0 ∧ ∃ U Q H W g c : Nat, u = U ∧ q = Q ∧ hh = H ∧ W = m.size * U + 2 * Q ∧ (1 ≤ U ∧ U ≤ 8) ∧ Q ≤ 200 ∧ (1 ≤ W ∧ W ≤ 4000) ∧ (1 ≤ H ∧ H ≤ 4000) ∧ W * H ≤ 1048576 ∧ a = W ∧ b = H ∧ ps = some ⟨g, 0, none⟩ ∧ pn = W * H ∧ pc = c ∧ ∀ j, j < W * H → w.cell? ⟨g, 0 + j, none⟩ = some (.bool (drawZ m Q U (j % W))))
theorem DrawnV.later {m : ByteArray} {u hh q a b : Int} {ps : Option Addr} {pn pc : Nat} {w w' : World} (h : DrawnV m u hh q a b ps pn pc w) (hb : Below w.heap.size w w') : DrawnV m u hh q a b ps pn pc w' := by
  rcases h with h | ⟨h0, U, Q, H, W, g, c, h1, h2, h3, h4, h5, h6, h7, h8, h9, h10, h11, h12, h13, h14, h15⟩
  · exact .inl h
  · exact .inr ⟨h0, U, Q, H, W, g, c, h1, h2, h3, h4, h5, h6, h7, h8, h9, h10, h11, h12, h13, h14, fun j hj => cell_later hb (h15 j hj)⟩

theorem draw_any (m : ByteArray) (u hh q : Int) (w : World) (hs : m.size ≤ 1048576) :
    Calls Tryd.prog 4 #[.string m, .int .i64 u, .int .i64 hh, .int .i64 q] w fun e w' => ∃ a b ps pn pc, e = .returned (.tuple #[.agg #[.int .i64 a, .int .i64 b, .slice ps pn pc], .int .i64 (drawErr m u hh q)]) ∧ DrawnV m u hh q a b ps pn pc w' ∧ Below w.heap.size w w' := by
  by_cases h0 : m.size = 0
  · have e : drawErr m u hh q = 9 := by unfold drawErr; rw [if_pos h0]
    refine (draw_empty m u hh q w h0).mono ?_
    rintro x w' ⟨rfl, hb⟩
    exact ⟨0, 0, none, 0, 0, by rw [e], .inl ⟨by rw [e]; decide, rfl, rfl, rfl, rfl, rfl⟩, hb⟩
  · by_cases h1 : bitsB m = false
    · have e : drawErr m u hh q = 2 := by unfold drawErr; rw [if_neg h0, if_pos h1]
      refine (draw_form m u hh q w (by omega) h0 h1).mono ?_
      rintro x w' ⟨rfl, hb⟩
      exact ⟨0, 0, none, 0, 0, by rw [e], .inl ⟨by rw [e]; decide, rfl, rfl, rfl, rfl, rfl⟩, hb⟩
    · have h1' : bitsB m = true := by simpa using h1
      by_cases hr : ((1 ≤ u ∧ u ≤ 8) ∧ (1 ≤ hh ∧ hh ≤ 4000)) ∧ (0 ≤ q ∧ q ≤ 200)
      · obtain ⟨⟨a1, a2⟩, a3⟩ := hr
        have e : drawErr m u hh q = sizeErr (2 * q + u * (m.size : Int)) hh := by unfold drawErr; rw [if_neg h0, if_neg h1, if_neg (fun h => h ⟨⟨a1, a2⟩, a3⟩)]
        obtain ⟨U, rfl⟩ := Int.eq_ofNat_of_zero_le (show 0 ≤ u by omega)
        obtain ⟨Q, rfl⟩ := Int.eq_ofNat_of_zero_le (show 0 ≤ q by omega)
        obtain ⟨H, rfl⟩ := Int.eq_ofNat_of_zero_le (show 0 ≤ hh by omega)
        have ew : 2 * (Q : Int) + (U : Int) * (m.size : Int) = ((m.size * U + 2 * Q : Nat) : Int) := by
          have hmu : (U : Int) * (m.size : Int) = ((m.size * U : Nat) : Int) := by rw [Int.mul_comm]; simp
          rw [hmu]; omega
        rw [ew] at e
        by_cases hz : sizeErr ((m.size * U + 2 * Q : Nat) : Int) (H : Int) = 0
        · refine (draw_ok H m U Q (H : Int) w hs h0 h1' a1 a2 a3 rfl hz).mono ?_
          rintro x w' ⟨g, c, rfl, hc, hb⟩
          obtain ⟨⟨z1, z2, z3, z4⟩, z5, z6⟩ := sizeErr_zero hz
          rw [← Int.natCast_mul] at z6
          exact ⟨_, _, _, _, _, by rw [e, hz], .inr ⟨by rw [e]; exact hz, U, Q, H, _, g, c, rfl, rfl, rfl, rfl, by omega, by omega, by omega, by omega, by omega, rfl, rfl, rfl, rfl, rfl, hc⟩, hb⟩
        · refine (draw_size m U Q (H : Int) w hs h0 h1' a1 a2 a3 hz).mono ?_
          rintro x w' ⟨rfl, hb⟩
          exact ⟨0, 0, none, 0, 0, by rw [e], .inl ⟨by rw [e]; exact hz, rfl, rfl, rfl, rfl, rfl⟩, hb⟩
      · have e : drawErr m u hh q = 3 := by unfold drawErr; rw [if_neg h0, if_neg h1, if_pos hr]
        refine (draw_range m u hh q w (by omega) h0 h1' hr).mono ?_
        rintro x w' ⟨rfl, hb⟩
        exact ⟨0, 0, none, 0, 0, by rw [e], .inl ⟨by rw [e]; decide, rfl, rfl, rfl, rfl, rfl⟩, hb⟩

/-- Whether the first k bytes are all bits. -/
def preB (m : ByteArray) : Nat → Bool
  | 0 => true
  | k + 1 => preB m k && (decide (byteAt m k = 48) || decide (byteAt m k = 49))
theorem preB_all (m : ByteArray) : preB m m.size = bitsB m := by
  have : ∀ k, k ≤ m.size → preB m k = (m.data.toList.take k).all bit8 := by
    intro k
    induction k with
    | zero => intro _; simp [preB]
    | succ k ih =>
      intro hk
      have hl : k < m.data.toList.length := by rw [Array.length_toList]; exact hk
      rw [preB, ih (by omega), List.take_succ_eq_append_getElem hl, List.all_append]
      congr 1
      have hbk : byteAt m k = ((m.data.toList[k]'hl).toNat : Int) := by unfold byteAt; rw [List.getD_eq_getElem?_getD, List.getElem?_eq_getElem hl]; rfl
      rw [hbk]
      show _ = (bit8 (m.data.toList[k]'hl) && true)
      rw [Bool.and_true]
      unfold bit8
      generalize (m.data.toList[k]'hl).toNat = x
      by_cases h1 : x = 48
      · subst h1; rfl
      · by_cases h2 : x = 49
        · subst h2; rfl
        · rw [decide_eq_false (show ¬ (x : Int) = 48 by omega), decide_eq_false (show ¬ (x : Int) = 49 by omega), decide_eq_false (show ¬ (x = 48 ∨ x = 49) by omega)]; rfl
  have h := this m.size (Nat.le_refl _)
  rw [h, List.take_of_length_le (by rw [Array.length_toList]; exact Nat.le_refl _)]
  rfl

theorem firstD_new (x y u : Int) (w : World) :
    Calls Tryd.prog 5 #[.slice (some ⟨w.heap.size, 0, none⟩) 3 3] (w.alloc (.cells #[.int .i64 x, .int .i64 y, .int .i64 u] 26)) fun r w' => r = .returned (.int .i64 (orI x (orI y u))) ∧ w.alloc (.cells #[.int .i64 x, .int .i64 y, .int .i64 u] 26) = w' := by
  refine (first_any w.heap.size [x, y, u] _ (by simp) ?_).mono ?_
  · intro j hj
    match j, hj with
    | 0, _ => rw [World.cell?_alloc_at _ _ _ _ rfl]; rfl
    | 1, _ => rw [World.cell?_alloc_at _ _ _ _ rfl]; rfl
    | 2, _ => rw [World.cell?_alloc_at _ _ _ _ rfl]; rfl
  · rintro e w' ⟨rfl, rfl⟩
    refine ⟨ret_int ?_, rfl⟩
    simp only [firstOf, orI]
    by_cases hx : x = 0
    · by_cases hy : y = 0
      · by_cases hu : u = 0 <;> simp [hx, hy, hu]
      · simp [hx, hy]
    · simp [hx]

end Go.Proofs.YthcmolhjncdnaaaDoor
