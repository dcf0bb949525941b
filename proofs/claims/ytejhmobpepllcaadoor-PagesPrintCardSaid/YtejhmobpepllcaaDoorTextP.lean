/-
  Plain mathematics: what is read of a page's own text.
-/
import Derived.Test.YtejhmobpepllcaaDoorPrint
import Derived.Test.YtejhmobpepllcaaDoorTextM
namespace Go.Proofs.YtejhmobpepllcaaDoor
set_option linter.unusedSimpArgs false
set_option linter.unusedVariables false

theorem indexByte_of : ∀ {l : List UInt8} {c : UInt8} {i : Nat}, l[i]? = some c → (∀ k, k < i → l[k]? ≠ some c) → Lib.indexByte l c = (i : Int)
  | [], _, i, h, _ => by simp at h
  | b :: l, c, 0, h, _ => by
    have : b = c := by simpa using h
    subst this
    unfold Lib.indexByte
    simp
  | b :: l, c, i + 1, h, hn => by
    have hb : b ≠ c := fun e => hn 0 (by omega) (by simp [e])
    have ih := indexByte_of (l := l) (c := c) (i := i) (by simpa using h) (fun k hk => by have := hn (k + 1) (by omega); simpa using this)
    unfold Lib.indexByte
    rw [if_neg (by simpa using hb), ih, if_neg (by simp)]
    push_cast
    rfl

theorem places_get {α : Type} (w : Nat) (f : Nat → Nat → α) (n x y : Nat) (hx : x < w) (hn : y * w + x < n) : (places w f n)[y * w + x]? = some (f x y) := by
  have h1 : (y * w + x) % w = x := by rw [Nat.add_comm, Nat.mul_comm, Nat.add_mul_mod_self_left, Nat.mod_eq_of_lt hx]
  have h2 : (y * w + x) / w = y := by rw [Nat.add_comm, Nat.mul_comm, Nat.add_mul_div_left _ _ (by omega), Nat.div_eq_of_lt hx, Nat.zero_add]
  unfold places
  rw [List.getElem?_map, List.getElem?_range hn]
  simp [h1, h2]

theorem letter_cases (b : Bool) : letter b = 35 ∨ letter b = 46 := by cases b <;> first | exact .inl rfl | exact .inr rfl
theorem letter_ok (b : Bool) : okLetter (letter b) = true := by rcases letter_cases b with h | h <;> rw [h] <;> decide
theorem letter_not (b : Bool) : letter b ≠ 10 := by rcases letter_cases b with h | h <;> rw [h] <;> decide
theorem letter_ink (b : Bool) : decide (letter b = 35) = b := by cases b <;> decide

theorem page_get (W H : Nat) (z : Nat → Bool) (x y : Nat) (hx : x ≤ W) (hy : y < H) : (pageText W z H)[y * (W + 1) + x]? = some (letterAt W z x y) := by
  rw [text_places]
  refine places_get (W + 1) _ _ x y (by omega) ?_
  have h1 := Nat.mul_le_mul_right (W + 1) (show y + 1 ≤ H by omega)
  rw [Nat.add_mul, Nat.one_mul] at h1
  omega
theorem page_length (W H : Nat) (z : Nat → Bool) : (pageText W z H).length = H * (W + 1) := by rw [text_places, places_length]

theorem rest_get (W H : Nat) (z : Nat → Bool) (x y : Nat) (hx : x ≤ W) (hy : y < H) : ((pageText W z H).drop (y * (W + 1)))[x]? = some (letterAt W z x y) := by
  rw [List.getElem?_drop, page_get W H z x y hx hy]

theorem rest_index (W H : Nat) (z : Nat → Bool) (y : Nat) (hy : y < H) : Lib.indexByte ((pageText W z H).drop (y * (W + 1))) 10 = (W : Int) := by
  refine indexByte_of ?_ fun k hk => ?_
  · rw [rest_get W H z W y (Nat.le_refl _) hy, letterAt, if_pos rfl]
  · rw [rest_get W H z k y (by omega) hy, letterAt, if_neg (by omega)]
    exact fun e => letter_not _ (Option.some.inj e)

theorem rest_row (W H : Nat) (z : Nat → Bool) (y : Nat) (hW : 1 ≤ W) (hy : y < H) : rowB (((pageText W z H).drop (y * (W + 1))).take W) = true := by
  unfold rowB
  rw [Bool.and_eq_true]
  refine ⟨?_, List.all_eq_true.2 fun b hb => ?_⟩
  · have h0 : (((pageText W z H).drop (y * (W + 1))).take W)[0]? = some (letterAt W z 0 y) := by
      rw [List.getElem?_take, if_pos (by omega), rest_get W H z 0 y (by omega) hy]
    cases hx : ((pageText W z H).drop (y * (W + 1))).take W with
    | nil => rw [hx] at h0; simp at h0
    | cons _ _ => rfl
  · obtain ⟨k, hk⟩ := List.mem_iff_getElem?.1 hb
    rw [List.getElem?_take] at hk
    by_cases hkW : k < W
    · rw [if_pos hkW, rest_get W H z k y (by omega) hy, letterAt, if_neg (by omega)] at hk
      rw [← Option.some.inj hk]
      exact letter_ok _
    · rw [if_neg hkW] at hk; cases hk

theorem rest_line (W H : Nat) (z : Nat → Bool) (y : Nat) (hW : 1 ≤ W) (hy : y < H) : lineB W ((pageText W z H).drop (y * (W + 1))) = true := by
  unfold lineB
  rw [rest_index W H z y hy, rest_row W H z y hW hy]
  simp

theorem rest_go (W H : Nat) (z : Nat → Bool) (hW : 1 ≤ W) : ∀ (m y f : Nat), y + m = H → m < f → parseGo W f ((pageText W z H).drop (y * (W + 1))) y = (true, H)
  | 0, y, f, hy, hf => by
    obtain ⟨f', rfl⟩ : ∃ f', f = f' + 1 := ⟨f - 1, by omega⟩
    have hyH : y = H := by omega
    subst hyH
    exact parseGo_end (List.drop_eq_nil_of_le (by rw [page_length]; exact Nat.le_refl _))
  | m + 1, y, f, hy, hf => by
    obtain ⟨f', rfl⟩ : ∃ f', f = f' + 1 := ⟨f - 1, by omega⟩
    have hne : (pageText W z H).drop (y * (W + 1)) ≠ [] := by
      intro e
      have := rest_get W H z 0 y (by omega) (by omega)
      rw [e] at this
      simp at this
    rw [parseGo_good hne (rest_line W H z y hW (by omega)), List.drop_drop]
    rw [show y * (W + 1) + (W + 1) = (y + 1) * (W + 1) by rw [Nat.add_mul y 1, Nat.one_mul]]
    exact rest_go W H z hW m (y + 1) f' (by omega) (by omega)

theorem page_pW (W H : Nat) (z : Nat → Bool) (hH : 1 ≤ H) : pW (pageText W z H) = W := by
  unfold pW
  have := rest_index W H z 0 (by omega)
  rw [Nat.zero_mul, List.drop_zero] at this
  rw [this]
  rfl
theorem page_pOut (W H : Nat) (z : Nat → Bool) (hW : 1 ≤ W) (hH : 1 ≤ H) : pOut (pageText W z H) = (true, H) := by
  unfold pOut
  rw [page_pW W H z hH]
  have := rest_go W H z hW H 0 ((pageText W z H).length + 1) (by omega) (by
    rw [page_length]
    have := Nat.le_mul_of_pos_right H (show 0 < W + 1 by omega)
    omega)
  rwa [Nat.zero_mul, List.drop_zero] at this
theorem page_ok (W H : Nat) (z : Nat → Bool) (hW : 1 ≤ W) (hW2 : W ≤ 200) (hH : 1 ≤ H) (hH2 : H ≤ 200) : pErr (pageText W z H) = 0 ∧ pAt (pageText W z H) = 0 := by
  refine pErr_ok ?_ (page_pOut W H z hW hH) (by omega) (by rw [page_pW W H z hH]; omega)
  rw [page_length]
  have := Nat.mul_le_mul hH2 (show W + 1 ≤ 201 by omega)
  omega
theorem page_ink (W H : Nat) (z : Nat → Bool) (x y : Nat) (hx : x < W) (hy : y < H) : inkOf (pageText W z H) W x y = z (y * W + x) := by
  unfold inkOf
  rw [List.getD_eq_getElem?_getD, page_get W H z x y (by omega) hy, letterAt, if_neg (by omega)]
  exact letter_ink _

end Go.Proofs.YtejhmobpepllcaaDoor
