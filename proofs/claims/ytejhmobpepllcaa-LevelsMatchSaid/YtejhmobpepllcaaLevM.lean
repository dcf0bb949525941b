/-
  Plain mathematics of Level: how many values lie in a range, and their sum; the least and the greatest; the level that is found step by step.
-/
import Derived.Test.YtejhmobpepllcaaHist
namespace Go.Proofs.Ytejhmobpepllcaa
set_option linter.unusedSimpArgs false
set_option linter.unusedVariables false

def cntIn (z : Nat → Int) (a b : Int) : Nat → Int
  | 0 => 0
  | n + 1 => cntIn z a b n + (if a ≤ z n ∧ z n < b then 1 else 0)
def sumIn (z : Nat → Int) (a b : Int) : Nat → Int
  | 0 => 0
  | n + 1 => sumIn z a b n + (if a ≤ z n ∧ z n < b then z n else 0)

theorem cntIn_add (z : Nat → Int) {a b c : Int} (h1 : a ≤ b) (h2 : b ≤ c) (n : Nat) : cntIn z a c n = cntIn z a b n + cntIn z b c n := by
  induction n with
  | zero => rfl
  | succ n ih => simp only [cntIn, ih]; split <;> split <;> split <;> omega
theorem sumIn_add (z : Nat → Int) {a b c : Int} (h1 : a ≤ b) (h2 : b ≤ c) (n : Nat) : sumIn z a c n = sumIn z a b n + sumIn z b c n := by
  induction n with
  | zero => rfl
  | succ n ih => simp only [sumIn, ih]; split <;> split <;> split <;> omega
theorem cntIn_hist (z : Nat → Int) (v n : Nat) : cntIn z v ((v : Int) + 1) n = (histN z n v : Int) := by
  induction n with
  | zero => rfl
  | succ n ih =>
    simp only [cntIn, ih]
    by_cases h : z n = (v : Int)
    · rw [histN_hit z n v h, if_pos (by omega)]; omega
    · rw [if_neg (by omega)]
      simp only [histN, sumN, if_neg h]; simp
theorem sumIn_hist (z : Nat → Int) (v n : Nat) : sumIn z v ((v : Int) + 1) n = (v : Int) * (histN z n v : Int) := by
  induction n with
  | zero => simp [sumIn, histN, sumN]
  | succ n ih =>
    simp only [sumIn, ih]
    by_cases h : z n = (v : Int)
    · rw [histN_hit z n v h, if_pos (by omega), h, Int.natCast_add, Int.mul_add]; simp
    · rw [if_neg (by omega)]
      simp only [histN, sumN, if_neg h]; simp
theorem cntIn_empty (z : Nat → Int) (a : Int) (n : Nat) : cntIn z a a n = 0 := by
  induction n with
  | zero => rfl
  | succ n ih => simp only [cntIn, ih]; rw [if_neg (by omega)]; rfl
theorem sumIn_empty (z : Nat → Int) (a : Int) (n : Nat) : sumIn z a a n = 0 := by
  induction n with
  | zero => rfl
  | succ n ih => simp only [sumIn, ih]; rw [if_neg (by omega)]; rfl
theorem cntIn_bounds (z : Nat → Int) (a b : Int) (n : Nat) : 0 ≤ cntIn z a b n ∧ cntIn z a b n ≤ n := by
  induction n with
  | zero => simp [cntIn]
  | succ n ih => simp only [cntIn]; split <;> omega
theorem sumIn_bounds (z : Nat → Int) (hz : ∀ j, 0 ≤ z j ∧ z j ≤ 255) (a b : Int) (n : Nat) : 0 ≤ sumIn z a b n ∧ sumIn z a b n ≤ 255 * cntIn z a b n := by
  induction n with
  | zero => simp [sumIn, cntIn]
  | succ n ih => have := hz n; simp only [cntIn, sumIn]; split <;> omega

/-- The mean of the values of a range. -/
def meanIn (z : Nat → Int) (a b : Int) (n : Nat) : Int := sumIn z a b n / cntIn z a b n
theorem meanIn_bounds (z : Nat → Int) (hz : ∀ j, 0 ≤ z j ∧ z j ≤ 255) (a b : Int) (n : Nat) (h : cntIn z a b n ≠ 0) : 0 ≤ meanIn z a b n ∧ meanIn z a b n ≤ 255 := by
  have h1 := cntIn_bounds z a b n
  have h2 := sumIn_bounds z hz a b n
  unfold meanIn
  refine ⟨Int.ediv_nonneg h2.1 h1.1, ?_⟩
  exact Int.ediv_le_of_le_mul (by omega) (by omega)

def levelNext (z : Nat → Int) (n : Nat) (t : Int) : Int := (meanIn z 0 t n + meanIn z t 256 n + 1) / 2
/-- The level after at most k steps. -/
def levelGo (z : Nat → Int) (n : Nat) : Nat → Int → Int
  | 0, t => t
  | k + 1, t => if cntIn z 0 t n = 0 ∨ cntIn z t 256 n = 0 then t else if levelNext z n t = t then t else levelGo z n k (levelNext z n t)

theorem levelGo_stop {z : Nat → Int} {n k : Nat} {t : Int} (h : cntIn z 0 t n = 0 ∨ cntIn z t 256 n = 0) : levelGo z n (k + 1) t = t := by rw [levelGo, if_pos h]
theorem levelGo_same {z : Nat → Int} {n k : Nat} {t : Int} (h : ¬ (cntIn z 0 t n = 0 ∨ cntIn z t 256 n = 0)) (h2 : levelNext z n t = t) : levelGo z n (k + 1) t = t := by rw [levelGo, if_neg h, if_pos h2]
theorem levelGo_next {z : Nat → Int} {n k : Nat} {t : Int} (h : ¬ (cntIn z 0 t n = 0 ∨ cntIn z t 256 n = 0)) (h2 : levelNext z n t ≠ t) : levelGo z n (k + 1) t = levelGo z n k (levelNext z n t) := by rw [levelGo, if_neg h, if_neg h2]
theorem levelNext_bounds (z : Nat → Int) (hz : ∀ j, 0 ≤ z j ∧ z j ≤ 255) (n : Nat) (t : Int) (h : ¬ (cntIn z 0 t n = 0 ∨ cntIn z t 256 n = 0)) : 0 ≤ levelNext z n t ∧ levelNext z n t ≤ 255 := by
  have h1 := meanIn_bounds z hz 0 t n (fun e => h (.inl e))
  have h2 := meanIn_bounds z hz t 256 n (fun e => h (.inr e))
  unfold levelNext
  omega

theorem levelGo_bounds (z : Nat → Int) (hz : ∀ j, 0 ≤ z j ∧ z j ≤ 255) (n : Nat) : ∀ (k : Nat) (t : Int), 0 ≤ t ∧ t ≤ 255 → 0 ≤ levelGo z n k t ∧ levelGo z n k t ≤ 255 := by
  intro k
  induction k with
  | zero => intro t h; exact h
  | succ k ih =>
    intro t h
    rw [levelGo]
    split
    · exact h
    · rename_i h1
      split
      · exact h
      · exact ih _ (levelNext_bounds z hz n t h1)

def IsMin (z : Nat → Int) (n : Nat) (m : Int) : Prop := (∃ j, j < n ∧ z j = m) ∧ ∀ j, j < n → m ≤ z j
def IsMax (z : Nat → Int) (n : Nat) (m : Int) : Prop := (∃ j, j < n ∧ z j = m) ∧ ∀ j, j < n → z j ≤ m
theorem IsMin.one {z : Nat → Int} {n : Nat} {m m' : Int} (h : IsMin z n m) (h' : IsMin z n m') : m = m' := by
  obtain ⟨⟨j, hj, e⟩, h2⟩ := h
  obtain ⟨⟨j', hj', e'⟩, h2'⟩ := h'
  have := h2 j' hj'
  have := h2' j hj
  omega
theorem IsMax.one {z : Nat → Int} {n : Nat} {m m' : Int} (h : IsMax z n m) (h' : IsMax z n m') : m = m' := by
  obtain ⟨⟨j, hj, e⟩, h2⟩ := h
  obtain ⟨⟨j', hj', e'⟩, h2'⟩ := h'
  have := h2 j' hj'
  have := h2' j hj
  omega
theorem IsMin.step {z : Nat → Int} {n : Nat} {m : Int} (h : IsMin z n m) : IsMin z (n + 1) (min m (z n)) := by
  obtain ⟨⟨j, hj, e⟩, h2⟩ := h
  refine ⟨?_, fun i hi => ?_⟩
  · by_cases hc : m ≤ z n
    · exact ⟨j, by omega, by omega⟩
    · exact ⟨n, by omega, by omega⟩
  · by_cases hn : i = n
    · subst hn; omega
    · have := h2 i (by omega); omega
theorem IsMax.step {z : Nat → Int} {n : Nat} {m : Int} (h : IsMax z n m) : IsMax z (n + 1) (max m (z n)) := by
  obtain ⟨⟨j, hj, e⟩, h2⟩ := h
  refine ⟨?_, fun i hi => ?_⟩
  · by_cases hc : z n ≤ m
    · exact ⟨j, by omega, by omega⟩
    · exact ⟨n, by omega, by omega⟩
  · by_cases hn : i = n
    · subst hn; omega
    · have := h2 i (by omega); omega
theorem isMin_one (z : Nat → Int) : IsMin z 1 (z 0) := ⟨⟨0, by omega, rfl⟩, fun j hj => by have e : j = 0 := (by omega); rw [e]; exact Int.le_refl _⟩
theorem isMax_one (z : Nat → Int) : IsMax z 1 (z 0) := ⟨⟨0, by omega, rfl⟩, fun j hj => by have e : j = 0 := (by omega); rw [e]; exact Int.le_refl _⟩

theorem histN_pos (z : Nat → Int) (n v : Nat) : 0 < histN z n v ↔ ∃ j, j < n ∧ z j = (v : Int) := by
  induction n with
  | zero => simp [histN, sumN]
  | succ n ih =>
    by_cases h : z n = (v : Int)
    · rw [histN_hit z n v h]
      exact ⟨fun _ => ⟨n, by omega, h⟩, fun _ => by omega⟩
    · have e : histN z (n + 1) v = histN z n v := by simp only [histN, sumN, if_neg h]; rfl
      rw [e, ih]
      constructor
      · rintro ⟨j, h1, h2⟩; exact ⟨j, by omega, h2⟩
      · rintro ⟨j, h1, h2⟩
        exact ⟨j, by have : j ≠ n := fun e => h (e ▸ h2); omega, h2⟩

/-- The least and the greatest of the values below k that occur: as extremes finds them. -/
def LoHi (c : Nat → Nat) (k : Nat) (l g : Int) : Prop :=
  (l = 256 ∧ g = 0 ∧ ∀ u, u < k → c u = 0) ∨ ∃ u v : Nat, l = (u : Int) ∧ g = (v : Int) ∧ u ≤ v ∧ v < k ∧ 0 < c u ∧ 0 < c v ∧ (∀ t, t < u → c t = 0) ∧ ∀ t, v < t → t < k → c t = 0
theorem LoHi.hit {c : Nat → Nat} {k : Nat} {l g : Int} (h : LoHi c k l g) (hk : k < 256) (hc : 0 < c k) : LoHi c (k + 1) (min l (k : Int)) (k : Int) := by
  rcases h with ⟨rfl, rfl, h⟩ | ⟨u, v, rfl, rfl, h1, h2, h3, h4, h5, h6⟩
  · exact .inr ⟨k, k, by omega, rfl, Nat.le_refl _, by omega, hc, hc, h, fun t a b => by omega⟩
  · exact .inr ⟨u, k, by omega, rfl, by omega, by omega, h3, hc, h5, fun t a b => by omega⟩
theorem LoHi.miss {c : Nat → Nat} {k : Nat} {l g : Int} (h : LoHi c k l g) (hc : c k = 0) : LoHi c (k + 1) l g := by
  rcases h with ⟨rfl, rfl, h⟩ | ⟨u, v, rfl, rfl, h1, h2, h3, h4, h5, h6⟩
  · exact .inl ⟨rfl, rfl, fun u hu => by by_cases e : u = k; exact e ▸ hc; exact h u (by omega)⟩
  · exact .inr ⟨u, v, rfl, rfl, h1, by omega, h3, h4, h5, fun t a b => by by_cases e : t = k; exact e ▸ hc; exact h6 t a (by omega)⟩
theorem LoHi.bounds {c : Nat → Nat} {k : Nat} {l g : Int} (h : LoHi c k l g) (hk : k ≤ 256) : 0 ≤ l ∧ l ≤ 256 ∧ 0 ≤ g ∧ g ≤ 255 := by
  rcases h with ⟨rfl, rfl, h⟩ | ⟨u, v, rfl, rfl, h1, h2, _⟩ <;> omega
theorem LoHi.ends {z : Nat → Int} {n : Nat} {l g : Int} (hz : ∀ j, 0 ≤ z j ∧ z j ≤ 255) (hn : 1 ≤ n) (h : LoHi (histN z n) 256 l g) : IsMin z n l ∧ IsMax z n g := by
  have val : ∀ j, ∃ v : Nat, z j = (v : Int) ∧ v < 256 := fun j => by
    obtain ⟨v, hv⟩ := Int.eq_ofNat_of_zero_le (hz j).1
    exact ⟨v, hv, by have := (hz j).2; omega⟩
  rcases h with ⟨_, _, h⟩ | ⟨u, v, rfl, rfl, h1, h2, h3, h4, h5, h6⟩
  · obtain ⟨t, ht, ht2⟩ := val 0
    have := (histN_pos z n t).2 ⟨0, by omega, ht⟩
    have := h t ht2
    omega
  · refine ⟨⟨(histN_pos z n u).1 h3, fun j hj => ?_⟩, ⟨(histN_pos z n v).1 h4, fun j hj => ?_⟩⟩
    · obtain ⟨t, ht, ht2⟩ := val j
      have hp := (histN_pos z n t).2 ⟨j, hj, ht⟩
      rw [ht]
      by_cases hc : t < u
      · have := h5 t hc; omega
      · omega
    · obtain ⟨t, ht, ht2⟩ := val j
      have hp := (histN_pos z n t).2 ⟨j, hj, ht⟩
      rw [ht]
      by_cases hc : v < t
      · have := h6 t hc ht2; omega
      · omega

end Go.Proofs.Ytejhmobpepllcaa
