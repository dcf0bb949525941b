/-
  What levels_holds leans on: contracts of the functions that it calls.
-/
import Derived.Test.YtcpgnfbjdokdcaaRows
import Derived.WalkKit
import Derived.WalkSpells
import Derived.WalkLawsBesides
import Derived.Lib.Hide
import Derived.Deep.RegionHeld3
import Derived.Shelf.Abstract
import Derived.Deep.AppendLies
import Derived.Deep.DrawnRows
import Derived.Deep.RegionLaw
import Derived.Deep.QuietTactic
import Derived.BigQuiet
import Derived.ProofKit
import Derived.OpenShut
import Derived.ShutString
import Derived.ChangeOld
import Derived.Lib.SmallJoins
import Derived.Deep.Grids
import Derived.Deep.DeepCutAuto
import Derived.Lib.MinMax
import Derived.Deep.CutRange
import Derived.Laws.EntriesVeiled
import Derived.StillTailTactics
import Derived.Test.YtcpgnfbjdokdcaaCLevels1
namespace Go.Proofs.Ytcpgnfbjdokdcaa
set_option linter.unusedSimpArgs false
set_option linter.unusedVariables false

def cntIn (z : Nat → Int) (a b : Int) : Nat → Int
  | 0 => 0
  | n + 1 => cntIn z a b n + (if a ≤ z n ∧ z n < b then 1 else 0)
def sumIn (z : Nat → Int) (a b : Int) : Nat → Int
  | 0 => 0
  | n + 1 => sumIn z a b n + (if a ≤ z n ∧ z n < b then z n else 0)

theorem cntIn_add (z : Nat → Int) {a b c : Int} (h1 : a ≤ b) (h2 : b ≤ c) (n : Nat) : cntIn z a c n = cntIn z a b n + cntIn z b c n := by
  induction n with
  | zero => rfl
  | succ n ih => simp only [cntIn, ih]; split <;> split <;> split <;> omega
theorem sumIn_add (z : Nat → Int) {a b c : Int} (h1 : a ≤ b) (h2 : b ≤ c) (n : Nat) : sumIn z a c n = sumIn z a b n + sumIn z b c n := by
  induction n with
  | zero => rfl
  | succ n ih => simp only [sumIn, ih]; split <;> split <;> split <;> omega
theorem cntIn_hist (z : Nat → Int) (v n : Nat) : cntIn z v ((v : Int) + 1) n = (histN z n v : Int) := by
  induction n with
  | zero => rfl
  | succ n ih =>
    simp only [cntIn, ih]
    by_cases h : z n = (v : Int)
    · rw [histN_hit z n v h, if_pos (by omega)]; omega
    · rw [if_neg (by omega)]
      simp only [histN, sumN, if_neg h]; simp
theorem sumIn_hist (z : Nat → Int) (v n : Nat) : sumIn z v ((v : Int) + 1) n = (v : Int) * (histN z n v : Int) := by
  induction n with
  | zero => simp [sumIn, histN, sumN]
  | succ n ih =>
    simp only [sumIn, ih]
    by_cases h : z n = (v : Int)
    · rw [histN_hit z n v h, if_pos (by omega), h, Int.natCast_add, Int.mul_add]; simp
    · rw [if_neg (by omega)]
      simp only [histN, sumN, if_neg h]; simp
theorem cntIn_empty (z : Nat → Int) (a : Int) (n : Nat) : cntIn z a a n = 0 := by
  induction n with
  | zero => rfl
  | succ n ih => simp only [cntIn, ih]; rw [if_neg (by omega)]; rfl
theorem sumIn_empty (z : Nat → Int) (a : Int) (n : Nat) : sumIn z a a n = 0 := by
  induction n with
  | zero => rfl
  | succ n ih => simp only [sumIn, ih]; rw [if_neg (by omega)]; rfl
theorem cntIn_bounds (z : Nat → Int) (a b : Int) (n : Nat) : 0 ≤ cntIn z a b n ∧ cntIn z a b n ≤ n := by
  induction n with
  | zero => simp [cntIn]
  | succ n ih => simp only [cntIn]; split <;> omega
theorem sumIn_bounds (z : Nat → Int) (hz : ∀ j, 0 ≤ z j ∧ z j ≤ 255) (a b : Int) (n : Nat) : 0 ≤ sumIn z a b n ∧ sumIn z a b n ≤ 255 * cntIn z a b n := by
  induction n with
  | zero => simp [sumIn, cntIn]
  | succ n ih => have := hz n; simp only [cntIn, sumIn]; split <;> omega

/-- The mean of the values of a range. -/
def meanIn (z : Nat → Int) (a b : Int) (n : Nat) : Int := sumIn z a b n / cntIn z a b n
theorem meanIn_bounds (z : Nat → Int) (hz : ∀ j, 0 ≤ z j ∧ z j ≤ 255) (a b : Int) (n : Nat) (h : cntIn z a b n ≠ 0) : 0 ≤ meanIn z a b n ∧ meanIn z a b n ≤ 255 := by
  have h1 := cntIn_bounds z a b n
  have h2 := sumIn_bounds z hz a b n
  unfold meanIn
  refine ⟨Int.ediv_nonneg h2.1 h1.1, ?_⟩
  exact Int.ediv_le_of_le_mul (by omega) (by omega)

def levelNext (z : Nat → Int) (n : Nat) (t : Int) : Int := (meanIn z 0 t n + meanIn z t 256 n + 1) / 2
/-- The level after at most k steps. -/
def levelGo (z : Nat → Int) (n : Nat) : Nat → Int → Int
  | 0, t => t
  | k + 1, t => if cntIn z 0 t n = 0 ∨ cntIn z t 256 n = 0 then t else if levelNext z n t = t then t else levelGo z n k (levelNext z n t)

theorem levelGo_stop {z : Nat → Int} {n k : Nat} {t : Int} (h : cntIn z 0 t n = 0 ∨ cntIn z t 256 n = 0) : levelGo z n (k + 1) t = t := by rw [levelGo, if_pos h]
theorem levelGo_same {z : Nat → Int} {n k : Nat} {t : Int} (h : ¬ (cntIn z 0 t n = 0 ∨ cntIn z t 256 n = 0)) (h2 : levelNext z n t = t) : levelGo z n (k + 1) t = t := by rw [levelGo, if_neg h, if_pos h2]
theorem levelGo_next {z : Nat → Int} {n k : Nat} {t : Int} (h : ¬ (cntIn z 0 t n = 0 ∨ cntIn z t 256 n = 0)) (h2 : levelNext z n t ≠ t) : levelGo z n (k + 1) t = levelGo z n k (levelNext z n t) := by rw [levelGo, if_neg h, if_neg h2]
theorem levelNext_bounds (z : Nat → Int) (hz : ∀ j, 0 ≤ z j ∧ z j ≤ 255) (n : Nat) (t : Int) (h : ¬ (cntIn z 0 t n = 0 ∨ cntIn z t 256 n = 0)) : 0 ≤ levelNext z n t ∧ levelNext z n t ≤ 255 := by
  have h1 := meanIn_bounds z hz 0 t n (fun e => h (.inl e))
  have h2 := meanIn_bounds z hz t 256 n (fun e => h (.inr e))
  unfold levelNext
  omega

theorem levelGo_bounds (z : Nat → Int) (hz : ∀ j, 0 ≤ z j ∧ z j ≤ 255) (n : Nat) : ∀ (k : Nat) (t : Int), 0 ≤ t ∧ t ≤ 255 → 0 ≤ levelGo z n k t ∧ levelGo z n k t ≤ 255 := by
  intro k
  induction k with
  | zero => intro t h; exact h
  | succ k ih =>
    intro t h
    rw [levelGo]
    split
    · exact h
    · rename_i h1
      split
      · exact h
      · exact ih _ (levelNext_bounds z hz n t h1)

def IsMin (z : Nat → Int) (n : Nat) (m : Int) : Prop := (∃ j, j < n ∧ z j = m) ∧ ∀ j, j < n → m ≤ z j
def IsMax (z : Nat → Int) (n : Nat) (m : Int) : Prop := (∃ j, j < n ∧ z j = m) ∧ ∀ j, j < n → z j ≤ m
theorem IsMin.one {z : Nat → Int} {n : Nat} {m m' : Int} (h : IsMin z n m) (h' : IsMin z n m') : m = m' := by
  obtain ⟨⟨j, hj, e⟩, h2⟩ := h
  obtain ⟨⟨j', hj', e'⟩, h2'⟩ := h'
  have := h2 j' hj'
  have := h2' j hj
  omega
theorem IsMax.one {z : Nat → Int} {n : Nat} {m m' : Int} (h : IsMax z n m) (h' : IsMax z n m') : m = m' := by
  obtain ⟨⟨j, hj, e⟩, h2⟩ := h
  obtain ⟨⟨j', hj', e'⟩, h2'⟩ := h'
  have := h2 j' hj'
  have := h2' j hj
  omega
theorem IsMin.step {z : Nat → Int} {n : Nat} {m : Int} (h : IsMin z n m) : IsMin z (n + 1) (min m (z n)) := by
  obtain ⟨⟨j, hj, e⟩, h2⟩ := h
  refine ⟨?_, fun i hi => ?_⟩
  · by_cases hc : m ≤ z n
    · exact ⟨j, by omega, by omega⟩
    · exact ⟨n, by omega, by omega⟩
  · by_cases hn : i = n
    · subst hn; omega
    · have := h2 i (by omega); omega
theorem IsMax.step {z : Nat → Int} {n : Nat} {m : Int} (h : IsMax z n m) : IsMax z (n + 1) (max m (z n)) := by
  obtain ⟨⟨j, hj, e⟩, h2⟩ := h
  refine ⟨?_, fun i hi => ?_⟩
  · by_cases hc : z n ≤ m
    · exact ⟨j, by omega, by omega⟩
    · exact ⟨n, by omega, by omega⟩
  · by_cases hn : i = n
    · subst hn; omega
    · have := h2 i (by omega); omega
theorem isMin_one (z : Nat → Int) : IsMin z 1 (z 0) := ⟨⟨0, by omega, rfl⟩, fun j hj => by have e : j = 0 := (by omega); rw [e]; exact Int.le_refl _⟩
theorem isMax_one (z : Nat → Int) : IsMax z 1 (z 0) := ⟨⟨0, by omega, rfl⟩, fun j hj => by have e : j = 0 := (by omega); rw [e]; exact Int.le_refl _⟩

theorem histN_pos (z : Nat → Int) (n v : Nat) : 0 < histN z n v ↔ ∃ j, j < n ∧ z j = (v : Int) := by
  induction n with
  | zero => simp [histN, sumN]
  | succ n ih =>
    by_cases h : z n = (v : Int)
    · rw [histN_hit z n v h]
      exact ⟨fun _ => ⟨n, by omega, h⟩, fun _ => by omega⟩
    · have e : histN z (n + 1) v = histN z n v := by simp only [histN, sumN, if_neg h]; rfl
      rw [e, ih]
      constructor
      · rintro ⟨j, h1, h2⟩; exact ⟨j, by omega, h2⟩
      · rintro ⟨j, h1, h2⟩
        exact ⟨j, by have : j ≠ n := fun e => h (e ▸ h2); omega, h2⟩

/-- The least and the greatest of the values below k that occur: as extremes finds them. -/
def LoHi (c : Nat → Nat) (k : Nat) (l g : Int) : Prop :=
  (l = 256 ∧ g = 0 ∧ ∀ u, u < k → c u = 0) ∨ ∃ u v : Nat, l = (u : Int) ∧ g = (v : Int) ∧ u ≤ v ∧ v < k ∧ 0 < c u ∧ 0 < c v ∧ (∀ t, t < u → c t = 0) ∧ ∀ t, v < t → t < k → c t = 0
theorem LoHi.hit {c : Nat → Nat} {k : Nat} {l g : Int} (h : LoHi c k l g) (hk : k < 256) (hc : 0 < c k) : LoHi c (k + 1) (min l (k : Int)) (k : Int) := by
  rcases h with ⟨rfl, rfl, h⟩ | ⟨u, v, rfl, rfl, h1, h2, h3, h4, h5, h6⟩
  · exact .inr ⟨k, k, by omega, rfl, Nat.le_refl _, by omega, hc, hc, h, fun t a b => by omega⟩
  · exact .inr ⟨u, k, by omega, rfl, by omega, by omega, h3, hc, h5, fun t a b => by omega⟩
theorem LoHi.miss {c : Nat → Nat} {k : Nat} {l g : Int} (h : LoHi c k l g) (hc : c k = 0) : LoHi c (k + 1) l g := by
  rcases h with ⟨rfl, rfl, h⟩ | ⟨u, v, rfl, rfl, h1, h2, h3, h4, h5, h6⟩
  · exact .inl ⟨rfl, rfl, fun u hu => by by_cases e : u = k; exact e ▸ hc; exact h u (by omega)⟩
  · exact .inr ⟨u, v, rfl, rfl, h1, by omega, h3, h4, h5, fun t a b => by by_cases e : t = k; exact e ▸ hc; exact h6 t a (by omega)⟩
theorem LoHi.bounds {c : Nat → Nat} {k : Nat} {l g : Int} (h : LoHi c k l g) (hk : k ≤ 256) : 0 ≤ l ∧ l ≤ 256 ∧ 0 ≤ g ∧ g ≤ 255 := by
  rcases h with ⟨rfl, rfl, h⟩ | ⟨u, v, rfl, rfl, h1, h2, _⟩ <;> omega
theorem LoHi.ends {z : Nat → Int} {n : Nat} {l g : Int} (hz : ∀ j, 0 ≤ z j ∧ z j ≤ 255) (hn : 1 ≤ n) (h : LoHi (histN z n) 256 l g) : IsMin z n l ∧ IsMax z n g := by
  have val : ∀ j, ∃ v : Nat, z j = (v : Int) ∧ v < 256 := fun j => by
    obtain ⟨v, hv⟩ := Int.eq_ofNat_of_zero_le (hz j).1
    exact ⟨v, hv, by have := (hz j).2; omega⟩
  rcases h with ⟨_, _, h⟩ | ⟨u, v, rfl, rfl, h1, h2, h3, h4, h5, h6⟩
  · obtain ⟨t, ht, ht2⟩ := val 0
    have := (histN_pos z n t).2 ⟨0, by omega, ht⟩
    have := h t ht2
    omega
  · refine ⟨⟨(histN_pos z n u).1 h3, fun j hj => ?_⟩, ⟨(histN_pos z n v).1 h4, fun j hj => ?_⟩⟩
    · obtain ⟨t, ht, ht2⟩ := val j
      have hp := (histN_pos z n t).2 ⟨j, hj, ht⟩
      rw [ht]
      by_cases hc : t < u
      · have := h5 t hc; omega
      · omega
    · obtain ⟨t, ht, ht2⟩ := val j
      have hp := (histN_pos z n t).2 ⟨j, hj, ht⟩
      rw [ht]
      by_cases hc : v < t
      · have := h6 t hc ht2; omega
      · omega

end Go.Proofs.Ytcpgnfbjdokdcaa
namespace Go.Proofs.Ytcpgnfbjdokdcaa
open Go.RowKit
set_option linter.unusedSimpArgs false
set_option linter.unusedVariables false

theorem halfUp_any (a b : Int) (w : World) (ha : 0 ≤ a ∧ a ≤ 1000) (hb : 0 ≤ b ∧ b ≤ 1000) : Calls Try.prog 125 #[.int .i64 a, .int .i64 b] w fun e w' => e = .returned (.int .i64 ((a + b + 1) / 2)) ∧ w = w' := by
  obtain ⟨a1, a2⟩ := ha
  obtain ⟨b1, b2⟩ := hb
  go_enter Try.func125, Try.ntmps125
  go_wp2
  go_ret
  exact ⟨rfl, rfl⟩

/-- What extremes returns. -/
def Ends2 (c : Nat → Nat) (w : World) (e : Ending) (w' : World) : Prop := ∃ l g : Int, e = .returned (.tuple #[.int .i64 l, .int .i64 g]) ∧ LoHi c 256 l g ∧ w = w'

set_option maxHeartbeats 400000 in
set_option maxRecDepth 100000 in
theorem extremes_any (c : Nat → Nat) (g cp : Nat) (w : World) (hc : ∀ k, k < 256 → w.cell? ⟨g, 0 + k, none⟩ = some (.int .i64 ((c k : Nat) : Int))) :
    Calls Try.prog 124 #[.slice (some ⟨g, 0, none⟩) 256 cp] w (Ends2 c w) := by
  have HC := Lib.hid hc
  clear hc
  go_enter Try.func124, Try.ntmps124
  go_wp2_with fail
  go_loop [2, 3, 10] (fun l h i => ∃ (k : Nat) (lv hv : Int), k ≤ 256 ∧ i = .int .i64 k ∧ l = .int .i64 lv ∧ h = .int .i64 hv ∧ Hid (LoHi c k lv hv)) (fun _ _ i => 256 - (intOf i).toNat)
  case atStart => exact ⟨0, 256, 0, by omega, rfl, rfl, rfl, Lib.hid (.inl ⟨rfl, rfl, fun u hu => by omega⟩)⟩
  case round =>
    obtain ⟨k, lv, hv, hk, rfl, rfl, rfl, hr⟩ := hrel
    by_cases hlt : k < 256
    · have hck := HC.out k hlt
      rw [Nat.zero_add] at hck
      have hb := hr.out.bounds hk
      obtain ⟨b1, b2, b3, b4⟩ := hb
      by_cases hz : c k = 0
      · have HN := Lib.hid (hr.out.miss hz)
        rw [hz] at hck
        have HZ := Lib.hid hz
        clear hz
        go_wp2_with fail
        go_round
        case rel => exact ⟨k + 1, lv, hv, by omega, by go_num, rfl, rfl, HN⟩
        case measure => simp [intOf]; omega
      · have HN := Lib.hid (hr.out.hit hlt (by omega))
        have hp : 0 < c k := by omega
        obtain ⟨q, hq⟩ : ∃ q, q = c k := ⟨_, rfl⟩
        rw [← hq] at hck hp
        obtain ⟨m, hm⟩ : ∃ m, min lv (k : Int) = m := ⟨_, rfl⟩
        rw [hm] at HN
        have hmb : 0 ≤ m ∧ m ≤ 256 := by omega
        clear hz hq
        go_wp2_with fail
        go_round
        case rel => exact ⟨k + 1, m, k, by omega, by go_num, rfl, rfl, HN⟩
        case measure => simp [intOf]; omega
    · obtain rfl : k = 256 := by omega
      go_wp2_with fail
      go_ret2
      exact ⟨lv, hv, rfl, hr.out, rfl⟩

/-- What mean returns: the mean of a range, if there is one. -/
def meanR (z : Nat → Int) (a b : Int) (n : Nat) : Int := if cntIn z a b n = 0 then 0 else meanIn z a b n
def meanOk (z : Nat → Int) (a b : Int) (n : Nat) : Bool := decide (cntIn z a b n ≠ 0)
set_option maxRecDepth 100000 in
theorem mean_any (z : Nat → Int) (n g cp a b : Nat) (w : World) (hz : ∀ j, 0 ≤ z j ∧ z j ≤ 255) (hn : n ≤ 1048576) (hab : a ≤ b) (hb : b ≤ 256)
    (hc : ∀ k, k < 256 → w.cell? ⟨g, 0 + k, none⟩ = some (.int .i64 ((histN z n k : Nat) : Int))) :
    Calls Try.prog 126 #[.slice (some ⟨g, 0, none⟩) 256 cp, .int .i64 a, .int .i64 b] w fun e w' =>
      e = .returned (.tuple #[.int .i64 (meanR z a b n), .bool (meanOk z a b n)]) ∧ w = w' := by
  have HC := Lib.hid hc
  have HZ := Lib.hid hz
  clear hc hz
  go_enter Try.func126, Try.ntmps126
  go_wp2_with fail
  go_loop [8, 9, 10] (fun s m i => ∃ (k : Nat) (sv mv : Int), a ≤ k ∧ k ≤ b ∧ i = .int .i64 k ∧ s = .int .i64 sv ∧ m = .int .i64 mv ∧ 0 ≤ sv ∧ sv ≤ 300000000 ∧ 0 ≤ mv ∧ mv ≤ 1048576 ∧ Hid (sv = sumIn z a k n ∧ mv = cntIn z a k n)) (fun _ _ i => b - (intOf i).toNat)
  case atStart => exact ⟨a, 0, 0, Nat.le_refl _, hab, rfl, rfl, rfl, by omega, by omega, by omega, by omega, Lib.hid ⟨(sumIn_empty z a n).symm, (cntIn_empty z a n).symm⟩⟩
  case round =>
    obtain ⟨k, sv, mv, hk1, hk2, rfl, rfl, rfl, s0, s1, m0, m1, hr⟩ := hrel
    by_cases hlt : k < b
    · have hck := HC.out k (by omega)
      rw [Nat.zero_add] at hck
      have e1 := sumIn_add z (a := a) (b := k) (c := (k : Int) + 1) (by omega) (by omega) n
      have e2 := cntIn_add z (a := a) (b := k) (c := (k : Int) + 1) (by omega) (by omega) n
      rw [sumIn_hist] at e1
      rw [cntIn_hist] at e2
      have f1 := cntIn_bounds z a ((k : Int) + 1) n
      have f2 := sumIn_bounds z HZ.out a ((k : Int) + 1) n
      obtain ⟨q, hq⟩ : ∃ q, q = histN z n k := ⟨_, rfl⟩
      rw [← hq] at hck e1 e2
      have hq1 : (q : Int) ≤ 1048576 := by have := histN_le z n k; omega
      have p0 : (0 : Int) ≤ (k : Int) * (q : Int) := Int.mul_nonneg (by omega) (by omega)
      have p1 : (k : Int) * (q : Int) ≤ 255 * 1048576 := Int.mul_le_mul (by omega) hq1 (by omega) (by omega)
      have HN := Lib.hid (show sv + (k : Int) * (q : Int) = sumIn z a ((k + 1 : Nat) : Int) n ∧ mv + (q : Int) = cntIn z a ((k + 1 : Nat) : Int) n from ⟨by rw [hr.out.1]; exact e1.symm, by rw [hr.out.2]; exact e2.symm⟩)
      have r1 : sv + (k : Int) * (q : Int) ≤ 300000000 := by have := hr.out.1; omega
      have r2 : mv + (q : Int) ≤ 1048576 := by have := hr.out.2; omega
      clear hq e1 e2 f1 f2
      go_wp2_with fail
      go_round
      case rel => exact ⟨k + 1, _, _, by omega, by omega, by go_num, rfl, rfl, by omega, r1, by omega, r2, HN⟩
      case measure => simp [intOf]; omega
    · obtain rfl : k = b := by omega
      by_cases hz : mv = 0
      · have e : cntIn z a k n = 0 := by rw [← hr.out.2, hz]
        have E := Lib.hid e
        subst hz
        clear e
        go_wp2_with fail
        go_ret2
        exact ⟨by unfold meanR meanOk; rw [if_pos E.out, decide_eq_false (fun h => h E.out)]; rfl, rfl⟩
      · have hm1 : 1 ≤ mv := by omega
        have E := Lib.hid (show cntIn z a k n ≠ 0 by rw [← hr.out.2]; exact hz)
        have hz' : (mv == 0) = false := by simpa using hz
        clear hz
        go_wp2_with fail
        go_ret2
        refine ⟨?_, rfl⟩
        unfold meanR meanOk
        rw [if_neg E.out, decide_eq_true E.out, meanIn, ← hr.out.1, ← hr.out.2]
        rfl

end Go.Proofs.Ytcpgnfbjdokdcaa
namespace Go.Proofs.Ytcpgnfbjdokdcaa
open Go.RowKit
set_option linter.unusedSimpArgs false
set_option linter.unusedVariables false

set_option maxHeartbeats 400000 in
set_option maxRecDepth 100000 in
theorem toBits_ok (W H g o c : Nat) (lv : Int) (z : Nat → Int) (w : World) (he : sizeErr W H = 0) (hl : 0 ≤ lv ∧ lv ≤ 256) (hzb : ∀ j, 0 ≤ z j ∧ z j ≤ 255)
    (hp : ∀ j, j < W * H → w.cell? ⟨g, o + j, none⟩ = some (.int .u8 (z j))) :
    Calls Try.prog 56 #[.agg #[.int .i64 W, .int .i64 H, .slice (some ⟨g, o, none⟩) (W * H) c], .int .i64 lv] w fun e w' =>
      ∃ v, e = .returned (.tuple #[.agg #[.int .i64 W, .int .i64 H, v], .int .i64 0]) ∧ w'.ownsRow w.heap.size 4 1 v (W * H) ((places W (fun x y => decide (z (y * W + x) < lv)) (W * H)).map Value.bool) ∧ Below w.heap.size w w' := by
  have hmf : ∀ (fn : Fn) (first cap : Array Value) (w : World), (Instr.makeFunc fn first cap).run Try.prog w = .ok (.func fn first cap) w := fun _ _ _ _ => rfl
  obtain ⟨⟨a1, a2, a3, a4⟩, z0, z1⟩ := sizeErr_zero he
  have hN : W * H ≤ 1048576 := by rw [← Int.natCast_mul] at z1; omega
  have hpe : pageErr W H (W * H) = 0 := by unfold pageErr; rw [if_pos he, if_pos (by simp [Int.natCast_mul])]
  obtain ⟨w1, hw1⟩ : ∃ w1, w1 = ((((w.alloc (.cells #[.int .i64 W, .int .i64 H, .slice (some ⟨g, o, none⟩) (W * H) c] 27)).alloc (.cells #[.int .i64 lv] 3)).alloc (.cells #[.int .i64 0, .int .i64 0, .slice none 0 0] 24)).alloc (.cells #[.int .i64 W, .int .i64 H, .slice (some ⟨g, o, none⟩) (W * H) c] 27)) := ⟨_, rfl⟩
  have B1 : Below w.heap.size w w1 := by rw [hw1]; exact below_alloc (below_alloc (below_alloc (new_below _ _) _) _) _
  have q0 : w1.cell? ⟨w.heap.size, 0, none⟩ = some (.int .i64 W) := by rw [hw1]; go_simp
  have q1 : w1.cell? ⟨w.heap.size, 1, none⟩ = some (.int .i64 H) := by rw [hw1]; go_simp
  have q2 : w1.cell? ⟨w.heap.size, 2, none⟩ = some (.slice (some ⟨g, o, none⟩) (W * H) c) := by rw [hw1]; go_simp
  have q3 : w1.cell? ⟨w.heap.size + 1, 0, none⟩ = some (.int .i64 lv) := by rw [hw1]; go_simp
  have qb : w1.heap[w.heap.size + 1 + 1]? = some (.cells #[.int .i64 0, .int .i64 0, .slice none 0 0] 24 (0, 0)) := by
    rw [hw1, Below.heap_alloc _ _ _ (by simp)]
    simpa using heap_alloc_new ((w.alloc (.cells #[.int .i64 W, .int .i64 H, .slice (some ⟨g, o, none⟩) (W * H) c] 27)).alloc (.cells #[.int .i64 lv] 3)) (.cells #[.int .i64 0, .int .i64 0, .slice none 0 0] 24)
  have HL1 := Lib.hid hl
  have HC := Lib.hid hp
  have HZ := Lib.hid hzb
  clear hp he z0 z1 hzb
  go_enter Try.func56, Try.ntmps56
  go_wp2_with (first | (go_at_call 14; refine (checkGray_any _ _ _ _ _ _).mono ?_; rintro e w' ⟨rfl, rfl⟩) | (go_at_call 107; refine (outside_no _ _ _ _ HL1.out).mono ?_; rintro e w' ⟨rfl, rfl⟩))
  rw [← hw1]
  clear hw1
  have lt1 := (Array.getElem?_eq_some_iff.1 qb).1
  refine (fillBool_any W H 116 _ (fun x y => decide (z (y * W + x) < lv)) w1 (by omega) (by omega) (by omega) (by omega) (Go.Proofs.enters_of Try.func116 (by kernel_rfl) rfl) ?_).mono ?_
  · intro x y wx hx hy hbx
    have hfit := row_fits hy (show x + 1 ≤ W by omega)
    refine (toBits1_any W H x y w.heap.size (w.heap.size + 1) g o (W * H) c _ _ lv wx (by omega) (by omega) hx hy rfl rfl (HZ.out _) (cell_later hbx q0) (cell_later hbx q2) (cell_later hbx q3) (cell_later hbx (cell_later B1 (HC.out _ (by omega))))).mono ?_
    rintro e wy ⟨rfl, k, rfl⟩
    exact ⟨rfl, below_drewN (Below.refl _ _) k⟩
  · rintro e w5 ⟨v, rfl, hown, hb5⟩
    obtain ⟨j0, j1, j2, r0, r1, r2⟩ := block3 (below_block hb5 qb)
    obtain ⟨va, vn, vc, rfl⟩ := owns_shape hown
    have k0 := cell_later hb5 q0
    have k1 := cell_later hb5 q1
    have F := Lib.hid hown
    have G := Lib.hid hb5
    have L := Lib.hid lt1
    clear hown hb5 lt1 q0 q1 q2 q3
    go_wp2_with fail
    refine bodyPost_ret (v := .tuple #[.agg #[.int .i64 W, .int .i64 H, .slice va vn vc], .int .i64 0]) (by simp [results, Try.results56, go_sem, j0, j1, j2]) rfl ⟨_, rfl, owns_far3 F.out L.out B1.size, below_far3 (below_step B1 G.out) (by omega)⟩

end Go.Proofs.Ytcpgnfbjdokdcaa
namespace Go.Proofs.Ytcpgnfbjdokdcaa
open Go.RowKit
set_option linter.unusedSimpArgs false
set_option linter.unusedVariables false

theorem mean_int (z : Nat → Int) (n g cp : Nat) (a b : Int) (w : World) (hz : ∀ j, 0 ≤ z j ∧ z j ≤ 255) (hn : n ≤ 1048576) (ha : 0 ≤ a) (hab : a ≤ b) (hb : b ≤ 256)
    (hc : ∀ k, k < 256 → w.cell? ⟨g, 0 + k, none⟩ = some (.int .i64 ((histN z n k : Nat) : Int))) :
    Calls Try.prog 126 #[.slice (some ⟨g, 0, none⟩) 256 cp, .int .i64 a, .int .i64 b] w fun e w' =>
      e = .returned (.tuple #[.int .i64 (meanR z a b n), .bool (meanOk z a b n)]) ∧ w = w' := by
  obtain ⟨A, rfl⟩ := Int.eq_ofNat_of_zero_le ha
  obtain ⟨B, rfl⟩ := Int.eq_ofNat_of_zero_le (by omega : 0 ≤ b)
  exact mean_any z n g cp A B w hz hn (by omega) (by omega) hc

/-- What Level returns of a right page. -/
def LevelR (z : Nat → Int) (n : Nat) (w : World) (e : Ending) (w' : World) : Prop :=
  ∃ mn mx : Int, IsMin z n mn ∧ IsMax z n mx ∧ e = .returned (.tuple #[.int .i64 (levelGo z n 100 ((mn + mx + 1) / 2)), .int .i64 0]) ∧ Below w.heap.size w w'

set_option maxHeartbeats 1000000 in
set_option maxRecDepth 100000 in
theorem level_ok (W H g o n c : Nat) (z : Nat → Int) (w : World) (hs : sizeErr W H = 0) (hn : n = W * H) (hzb : ∀ j, 0 ≤ z j ∧ z j ≤ 255)
    (hp : ∀ j, j < n → w.cell? ⟨g, o + j, none⟩ = some (.int .u8 (z j))) :
    Calls Try.prog 75 #[.agg #[.int .i64 W, .int .i64 H, .slice (some ⟨g, o, none⟩) n c]] w (LevelR z n w) := by
  obtain ⟨⟨a1, a2, a3, a4⟩, z0, z1⟩ := sizeErr_zero hs
  have hN : n ≤ 1048576 := by rw [hn]; rw [← Int.natCast_mul] at z1; omega
  have hn1 : 1 ≤ n := by rw [hn]; exact Nat.mul_pos (by omega) (by omega)
  have HS := Lib.hid hs
  have HN := Lib.hid hn
  have HZ := Lib.hid hzb
  have HC := Lib.hid hp
  clear hs hn hzb hp z0 z1
  go_enter Try.func75, Try.ntmps75
  go_wp2_with fail
  have B1 := new_below w (.cells #[.int .i64 W, .int .i64 H, .slice (some ⟨g, o, none⟩) n c] 27)
  refine (histogram_ok W H g o n c z _ HS.out HN.out HZ.out (fun j hj => cell_later B1 (HC.out j hj))).mono ?_
  rintro e w1 ⟨v, rfl, hown, hb⟩
  obtain ⟨gh, ch, rfl, _, hcnt⟩ := owns_nums hown (by omega)
  have HB := Lib.hid (below_step B1 hb)
  have HCN := Lib.hid hcnt
  clear hown hcnt hb B1
  go_wp2_with fail
  refine (extremes_any (histN z n) gh ch w1 HCN.out).mono ?_
  rintro e w2 ⟨lo, hi, rfl, hlh, rfl⟩
  obtain ⟨b1, b2, b3, b4⟩ := hlh.bounds (Nat.le_refl _)
  obtain ⟨hmin, hmax⟩ := hlh.ends HZ.out hn1
  have b5 : lo ≤ 255 := by
    obtain ⟨j, _, e⟩ := hmin.1
    have := (HZ.out j).2
    omega
  have HMIN := Lib.hid hmin
  have HMAX := Lib.hid hmax
  obtain ⟨T0, hT0⟩ : ∃ T0 : Nat, (lo + hi + 1) / 2 = (T0 : Int) := Int.eq_ofNat_of_zero_le (by omega)
  have hT1 : T0 ≤ 255 := by omega
  have HT0 := Lib.hid hT0
  clear hlh hmin hmax hT0
  go_wp2_with (go_at_call 125; refine (halfUp_any lo hi _ ⟨b1, by omega⟩ ⟨b3, by omega⟩).mono ?_; rintro e w' ⟨rfl, rfl⟩; rw [HT0.out])
  go_loop [8, 30] (fun l i => ∃ k T : Nat, k ≤ 100 ∧ i = .int .i64 k ∧ l = .int .i64 T ∧ T ≤ 255 ∧ Hid (levelGo z n (100 - k) (T : Int) = levelGo z n 100 (T0 : Int))) (fun _ i => 100 - (intOf i).toNat)
  case atStart => exact ⟨0, T0, by omega, rfl, rfl, hT1, Lib.hid rfl⟩
  case round =>
    obtain ⟨k, T, hk, rfl, rfl, hT, hg⟩ := hrel
    by_cases hlt : k < 100
    · have hk1 : 100 - k = (99 - k) + 1 := by omega
      have HG := Lib.hid (show levelGo z n ((99 - k) + 1) (T : Int) = levelGo z n 100 (T0 : Int) by rw [← hk1]; exact hg.out)
      clear hk1 hg
      by_cases hstop : cntIn z 0 T n = 0 ∨ cntIn z T 256 n = 0
      · have hres := Lib.hid ((levelGo_stop hstop).symm.trans HG.out)
        by_cases h0 : cntIn z 0 T n = 0
        · have e0 : meanOk z 0 T n = false := decide_eq_false (fun h => h h0)
          clear hstop h0
          go_wp2_with (go_at_call 126; refine (mean_int z n gh ch _ _ _ HZ.out hN (by omega) (by omega) (by omega) HCN.out).mono ?_; rintro e w' ⟨rfl, rfl⟩)
          go_ret2
          exact ⟨lo, hi, HMIN.out, HMAX.out, by rw [HT0.out, ← hres.out]; rfl, HB.out⟩
        · have e0 : meanOk z 0 T n = true := decide_eq_true h0
          have e1 : meanOk z T 256 n = false := decide_eq_false (fun h => h (hstop.resolve_left h0))
          clear hstop h0
          go_wp2_with (go_at_call 126; refine (mean_int z n gh ch _ _ _ HZ.out hN (by omega) (by omega) (by omega) HCN.out).mono ?_; rintro e w' ⟨rfl, rfl⟩)
          go_ret2
          exact ⟨lo, hi, HMIN.out, HMAX.out, by rw [HT0.out, ← hres.out]; rfl, HB.out⟩
      · have e0 : meanOk z 0 T n = true := decide_eq_true (fun h => hstop (.inl h))
        have e1 : meanOk z T 256 n = true := decide_eq_true (fun h => hstop (.inr h))
        have f0 := meanIn_bounds z HZ.out 0 T n (fun h => hstop (.inl h))
        have f1 := meanIn_bounds z HZ.out T 256 n (fun h => hstop (.inr h))
        have m0 : meanR z 0 T n = meanIn z 0 T n := if_neg (fun h => hstop (.inl h))
        have m1 : meanR z T 256 n = meanIn z T 256 n := if_neg (fun h => hstop (.inr h))
        rw [← m0] at f0
        rw [← m1] at f1
        have hnx : levelNext z n T = (meanR z 0 T n + meanR z T 256 n + 1) / 2 := by unfold levelNext; rw [m0, m1]
        obtain ⟨X, hX⟩ : ∃ X : Nat, (meanR z 0 T n + meanR z T 256 n + 1) / 2 = (X : Int) := Int.eq_ofNat_of_zero_le (by omega)
        have hX1 : X ≤ 255 := by omega
        have HX := Lib.hid hX
        have HST := Lib.hid hstop
        have HNX := Lib.hid (hnx.trans hX)
        clear hstop m0 m1 hnx hX
        by_cases heq : X = T
        · subst heq
          have hres := Lib.hid ((levelGo_same HST.out HNX.out).symm.trans HG.out)
          go_wp2_with (first | (go_at_call 126; refine (mean_int z n gh ch _ _ _ HZ.out hN (by omega) (by omega) (by omega) HCN.out).mono ?_; rintro e w' ⟨rfl, rfl⟩) | (go_at_call 125; refine (halfUp_any _ _ _ ⟨f0.1, by omega⟩ ⟨f1.1, by omega⟩).mono ?_; rintro e w' ⟨rfl, rfl⟩; rw [HX.out]))
          go_ret2
          exact ⟨lo, hi, HMIN.out, HMAX.out, by rw [HT0.out, ← hres.out]; rfl, HB.out⟩
        · have hne : ((X : Int) == (T : Int)) = false := by simpa using (by omega : ¬ (X : Int) = (T : Int))
          have hne' : (X == T) = false := by simpa using heq
          have hres := Lib.hid ((levelGo_next HST.out (by rw [HNX.out]; omega)).symm.trans HG.out)
          clear heq
          go_wp2_with (first | (go_at_call 126; refine (mean_int z n gh ch _ _ _ HZ.out hN (by omega) (by omega) (by omega) HCN.out).mono ?_; rintro e w' ⟨rfl, rfl⟩) | (go_at_call 125; refine (halfUp_any _ _ _ ⟨f0.1, by omega⟩ ⟨f1.1, by omega⟩).mono ?_; rintro e w' ⟨rfl, rfl⟩; rw [HX.out]))
          go_round
          case rel => exact ⟨k + 1, X, by omega, by go_num, rfl, hX1, Lib.hid (by rw [show 100 - (k + 1) = 99 - k by omega, ← HNX.out]; exact hres.out)⟩
          case measure => simp [intOf]; omega
    · obtain rfl : k = 100 := by omega
      have hres := Lib.hid (show (T : Int) = levelGo z n 100 (T0 : Int) from hg.out)
      clear hg
      go_wp2_with fail
      go_ret2
      exact ⟨lo, hi, HMIN.out, HMAX.out, by rw [HT0.out, ← hres.out]; rfl, HB.out⟩

end Go.Proofs.Ytcpgnfbjdokdcaa
namespace Go.Proofs.Ytcpgnfbjdokdcaa
open Go.RowKit
set_option linter.unusedSimpArgs false
set_option linter.unusedVariables false

set_option maxRecDepth 100000 in
theorem minB_any (z : Nat → Int) (m : Int) (g o n c : Nat) (w : World) (hz : ∀ j, 0 ≤ z j ∧ z j ≤ 255) (hn : 1 ≤ n) (hn2 : n ≤ 1048576) (hm : IsMin z n m) (hp : ∀ j, j < n → w.cell? ⟨g, o + j, none⟩ = some (.int .u8 (z j))) :
    Calls Try.prog 127 #[.slice (some ⟨g, o, none⟩) n c] w fun e w' => e = .returned (.int .u8 m) ∧ w = w' := by
  have HC := Lib.hid hp
  have HZ := Lib.hid hz
  have HM := Lib.hid hm
  have h0 := hp 0 hn
  rw [Nat.add_zero] at h0
  have HO := Lib.hid (isMin_one z)
  have hb0 := hz 0
  obtain ⟨q0, hq0⟩ : ∃ q, q = z 0 := ⟨_, rfl⟩
  rw [← hq0] at h0 HO hb0
  clear hp hz hm hq0
  go_enter Try.func127, Try.ntmps127
  go_wp2_with fail
  go_loop [3, 4] (fun s i => ∃ (k : Nat) (mv : Int), 1 ≤ k ∧ k ≤ n ∧ i = .int .i64 k ∧ s = .int .u8 mv ∧ 0 ≤ mv ∧ mv ≤ 255 ∧ Hid (IsMin z k mv)) (fun _ i => n - (intOf i).toNat)
  case atStart => exact ⟨1, q0, by omega, hn, rfl, rfl, hb0.1, hb0.2, HO⟩
  case round =>
    obtain ⟨k, mv, hk1, hk2, rfl, rfl, v0, v1, hr⟩ := hrel
    by_cases hlt : k < n
    · have hck := HC.out k hlt
      have hqb := HZ.out k
      have HS := Lib.hid hr.out.step
      obtain ⟨q, hq⟩ : ∃ q, q = z k := ⟨_, rfl⟩
      rw [← hq] at hck hqb HS
      obtain ⟨x, hx⟩ : ∃ x, min mv q = x := ⟨_, rfl⟩
      rw [hx] at HS
      have hxb : 0 ≤ x ∧ x ≤ 255 := by omega
      clear hq hr
      go_wp2_with fail
      go_round
      case rel => exact ⟨k + 1, x, by omega, by omega, by go_num, rfl, hxb.1, hxb.2, HS⟩
      case measure => simp [intOf]; omega
    · obtain rfl : k = n := by omega
      have E := Lib.hid (hr.out.one HM.out)
      go_wp2_with fail
      go_ret
      exact ⟨by rw [E.out]; rfl, rfl⟩

set_option maxRecDepth 100000 in
theorem maxB_any (z : Nat → Int) (m : Int) (g o n c : Nat) (w : World) (hz : ∀ j, 0 ≤ z j ∧ z j ≤ 255) (hn : 1 ≤ n) (hn2 : n ≤ 1048576) (hm : IsMax z n m) (hp : ∀ j, j < n → w.cell? ⟨g, o + j, none⟩ = some (.int .u8 (z j))) :
    Calls Try.prog 128 #[.slice (some ⟨g, o, none⟩) n c] w fun e w' => e = .returned (.int .u8 m) ∧ w = w' := by
  have HC := Lib.hid hp
  have HZ := Lib.hid hz
  have HM := Lib.hid hm
  have h0 := hp 0 hn
  rw [Nat.add_zero] at h0
  have HO := Lib.hid (isMax_one z)
  have hb0 := hz 0
  obtain ⟨q0, hq0⟩ : ∃ q, q = z 0 := ⟨_, rfl⟩
  rw [← hq0] at h0 HO hb0
  clear hp hz hm hq0
  go_enter Try.func128, Try.ntmps128
  go_wp2_with fail
  go_loop [3, 4] (fun s i => ∃ (k : Nat) (mv : Int), 1 ≤ k ∧ k ≤ n ∧ i = .int .i64 k ∧ s = .int .u8 mv ∧ 0 ≤ mv ∧ mv ≤ 255 ∧ Hid (IsMax z k mv)) (fun _ i => n - (intOf i).toNat)
  case atStart => exact ⟨1, q0, by omega, hn, rfl, rfl, hb0.1, hb0.2, HO⟩
  case round =>
    obtain ⟨k, mv, hk1, hk2, rfl, rfl, v0, v1, hr⟩ := hrel
    by_cases hlt : k < n
    · have hck := HC.out k hlt
      have hqb := HZ.out k
      have HS := Lib.hid hr.out.step
      obtain ⟨q, hq⟩ : ∃ q, q = z k := ⟨_, rfl⟩
      rw [← hq] at hck hqb HS
      obtain ⟨x, hx⟩ : ∃ x, max mv q = x := ⟨_, rfl⟩
      rw [hx] at HS
      have hxb : 0 ≤ x ∧ x ≤ 255 := by omega
      clear hq hr
      go_wp2_with fail
      go_round
      case rel => exact ⟨k + 1, x, by omega, by omega, by go_num, rfl, hxb.1, hxb.2, HS⟩
      case measure => simp [intOf]; omega
    · obtain rfl : k = n := by omega
      have E := Lib.hid (hr.out.one HM.out)
      go_wp2_with fail
      go_ret
      exact ⟨by rw [E.out]; rfl, rfl⟩

theorem block2 {w : World} {b : Nat} {x y : Value} {t : TypeId} (h : w.heap[b]? = some (.cells #[x, y] t (0, 0))) :
    w.cell? ⟨b, 0, none⟩ = some x ∧ w.cell? ⟨b, 1, none⟩ = some y ∧ w.frozen? ⟨b, 0, none⟩ = false ∧ w.frozen? ⟨b, 1, none⟩ = false :=
  ⟨by rw [cell_of_row w b 0 _ t (0, 0) h]; rfl, by rw [cell_of_row w b 1 _ t (0, 0) h]; rfl, frozen_of_row w b 0 _ t h, frozen_of_row w b 1 _ t h⟩

/-- Two pairs in memory: how many values were met below and from the level on, and their sums. -/
def Pairs (w : World) (bn bs : Nat) (n0 n1 s0 s1 : Int) : Prop :=
  w.heap[bn]? = some (.cells #[.int .i64 n0, .int .i64 n1] 125 (0, 0)) ∧ w.heap[bs]? = some (.cells #[.int .i64 s0, .int .i64 s1] 125 (0, 0))
theorem Pairs.low {w : World} {bn bs : Nat} {n0 n1 s0 s1 : Int} (h : Pairs w bn bs n0 n1 s0 s1) (hne : bn ≠ bs) (a b : Int) : Pairs ((w.setCell ⟨bn, 0, none⟩ (.int .i64 a)).setCell ⟨bs, 0, none⟩ (.int .i64 b)) bn bs a n1 b s1 := by
  refine ⟨?_, ?_⟩
  · rw [Below.heap_setCell _ _ _ _ (by simpa using hne)]
    simpa using heap_setCell_same w bn 0 _ 125 (.int .i64 a) h.1
  · have := heap_setCell_same (w.setCell ⟨bn, 0, none⟩ (.int .i64 a)) bs 0 #[.int .i64 s0, .int .i64 s1] 125 (.int .i64 b) (by rw [Below.heap_setCell _ _ _ _ (by simpa using hne.symm)]; exact h.2)
    simpa using this
theorem Pairs.high {w : World} {bn bs : Nat} {n0 n1 s0 s1 : Int} (h : Pairs w bn bs n0 n1 s0 s1) (hne : bn ≠ bs) (a b : Int) : Pairs ((w.setCell ⟨bn, 1, none⟩ (.int .i64 a)).setCell ⟨bs, 1, none⟩ (.int .i64 b)) bn bs n0 a s0 b := by
  refine ⟨?_, ?_⟩
  · rw [Below.heap_setCell _ _ _ _ (by simpa using hne)]
    simpa using heap_setCell_same w bn 1 _ 125 (.int .i64 a) h.1
  · have := heap_setCell_same (w.setCell ⟨bn, 1, none⟩ (.int .i64 a)) bs 1 #[.int .i64 s0, .int .i64 s1] 125 (.int .i64 b) (by rw [Below.heap_setCell _ _ _ _ (by simpa using hne.symm)]; exact h.2)
    simpa using this

theorem cnt_low {z : Nat → Int} {T : Int} {j : Nat} (hz : 0 ≤ z j ∧ z j ≤ 255) (h : z j < T) :
    cntIn z 0 T (j + 1) = cntIn z 0 T j + 1 ∧ cntIn z T 256 (j + 1) = cntIn z T 256 j ∧ sumIn z 0 T (j + 1) = sumIn z 0 T j + z j ∧ sumIn z T 256 (j + 1) = sumIn z T 256 j := by
  simp only [cntIn, sumIn]
  rw [if_pos (by omega), if_neg (by omega), if_pos (by omega), if_neg (by omega)]
  simp
theorem cnt_high {z : Nat → Int} {T : Int} {j : Nat} (hz : 0 ≤ z j ∧ z j ≤ 255) (h : T ≤ z j) :
    cntIn z 0 T (j + 1) = cntIn z 0 T j ∧ cntIn z T 256 (j + 1) = cntIn z T 256 j + 1 ∧ sumIn z 0 T (j + 1) = sumIn z 0 T j ∧ sumIn z T 256 (j + 1) = sumIn z T 256 j + z j := by
  simp only [cntIn, sumIn]
  rw [if_neg (by omega), if_pos (by omega), if_neg (by omega), if_pos (by omega)]
  simp

set_option maxHeartbeats 2000000 in
set_option maxRecDepth 100000 in
theorem levelR_any (W H mn mx : Int) (g o n c : Nat) (z : Nat → Int) (w : World) (hn : 1 ≤ n) (hn2 : n ≤ 1048576) (hzb : ∀ j, 0 ≤ z j ∧ z j ≤ 255) (hmn : IsMin z n mn) (hmx : IsMax z n mx)
    (hp : ∀ j, j < n → w.cell? ⟨g, o + j, none⟩ = some (.int .u8 (z j))) :
    Calls Try.prog 77 #[.agg #[.int .i64 W, .int .i64 H, .slice (some ⟨g, o, none⟩) n c]] w fun e w' => e = .returned (.int .i64 (levelGo z n 100 ((mn + mx + 1) / 2))) ∧ Below w.heap.size w w' := by
  have bmn : 0 ≤ mn ∧ mn ≤ 255 := by obtain ⟨j, _, e⟩ := hmn.1; have := hzb j; omega
  have bmx : 0 ≤ mx ∧ mx ≤ 255 := by obtain ⟨j, _, e⟩ := hmx.1; have := hzb j; omega
  obtain ⟨T0, hT0⟩ : ∃ T0 : Nat, (mn + mx + 1) / 2 = (T0 : Int) := Int.eq_ofNat_of_zero_le (by omega)
  have hT1 : T0 ≤ 255 := by omega
  have HZ := Lib.hid hzb
  have HC := Lib.hid hp
  have B1 := new_below w (.cells #[.int .i64 W, .int .i64 H, .slice (some ⟨g, o, none⟩) n c] 27)
  have HMN := Lib.hid (fun q => minB_any z mn g o n c ((w.alloc (.cells #[.int .i64 W, .int .i64 H, .slice (some ⟨g, o, none⟩) n c] 27)).drewN q) hzb hn hn2 hmn (fun j hj => cell_later (below_drewN B1 q) (hp j hj)))
  have HMX := Lib.hid (fun q => maxB_any z mx g o n c ((w.alloc (.cells #[.int .i64 W, .int .i64 H, .slice (some ⟨g, o, none⟩) n c] 27)).drewN q) hzb hn hn2 hmx (fun j hj => cell_later (below_drewN B1 q) (hp j hj)))
  clear hzb hp hmn hmx B1
  go_enter Try.func77, Try.ntmps77
  go_wp2_with fail
  go_quiet ((first | (go_at_call 127; (with_reducible refine (HMN.out _).mono ?_); rintro e w1 ⟨rfl, rfl⟩; exact ⟨rfl, _, rfl⟩) | (go_at_call 128; (with_reducible refine (HMX.out _).mono ?_); rintro e w1 ⟨rfl, rfl⟩; exact ⟨rfl, _, rfl⟩)))
  rw [hT0]
  have HT0 := Lib.hid hT0
  clear hT0
  obtain ⟨w1, hw1⟩ : ∃ w1, w1 = (w.alloc (.cells #[.int .i64 W, .int .i64 H, .slice (some ⟨g, o, none⟩) n c] 27)).drewN nq := ⟨_, rfl⟩
  have B1 : Below w.heap.size w w1 := by rw [hw1]; exact below_drewN (new_below _ _) _
  have k2 : w1.cell? ⟨w.heap.size, 2, none⟩ = some (.slice (some ⟨g, o, none⟩) n c) := by rw [hw1]; go_simp
  rw [← hw1]
  clear hw1 HMN HMX bmn bmx
  have HB1 := Lib.hid B1
  have HC1 := Lib.hid (fun j (hj : j < n) => cell_later B1 (HC.out j hj))
  clear B1
  go_wp2_with fail
  go_loopw [3, 21] (fun l i wr => ∃ k T : Nat, k ≤ 100 ∧ i = .int .i64 k ∧ l = .int .i64 T ∧ T ≤ 255 ∧ Hid (levelGo z n (100 - k) (T : Int) = levelGo z n 100 (T0 : Int)) ∧ Below w1.heap.size w1 wr) (fun _ i _ => 100 - (intOf i).toNat)
  case atStart => exact ⟨0, T0, by omega, rfl, rfl, hT1, Lib.hid rfl, Below.refl _ _⟩
  case round =>
    obtain ⟨k, T, hk, rfl, rfl, hT, hg, hb⟩ := hrel
    by_cases hlt : k < 100
    · have hk1 : 100 - k = (99 - k) + 1 := by omega
      have HG := Lib.hid (show levelGo z n ((99 - k) + 1) (T : Int) = levelGo z n 100 (T0 : Int) by rw [← hk1]; exact hg.out)
      have c2 := cell_later hb k2
      have l2 := World.block_lt_of_cell? _ _ c2
      simp only at l2
      have HB := Lib.hid hb
      obtain ⟨wo, rfl⟩ : ∃ wo : World, wo = wr := ⟨_, rfl⟩
      clear hk1 hg hb
      go_wp2_with fail
      obtain ⟨w2, hw2⟩ : ∃ w2, w2 = (wo.alloc (.cells #[.int .i64 0, .int .i64 0] 125)).alloc (.cells #[.int .i64 0, .int .i64 0] 125) := ⟨_, rfl⟩
      have B2 : Below wo.heap.size wo w2 := by rw [hw2]; exact below_alloc (new_below _ _) _
      have P2 : Pairs w2 wo.heap.size (wo.heap.size + 1) 0 0 0 0 := by
        rw [hw2]
        refine ⟨?_, ?_⟩
        · rw [Below.heap_alloc _ _ _ (by simp)]; exact heap_alloc_new _ _
        · simpa using heap_alloc_new (wo.alloc (.cells #[.int .i64 0, .int .i64 0] 125)) (.cells #[.int .i64 0, .int .i64 0] 125)
      have c2' := cell_later B2 c2
      have l3 : w.heap.size < w2.heap.size := by have := B2.size; omega
      rw [← hw2]
      clear hw2 c2
      have HB2 := Lib.hid B2
      have HC2 := Lib.hid (fun j (hj : j < n) => cell_later (below_step HB.out B2) (HC1.out j hj))
      have HL2 := Lib.hid (fun j (hj : j < n) => show g < wo.heap.size from by
        have h1 := World.block_lt_of_cell? _ _ (HC.out j hj)
        have h2 := HB1.out.size
        have h3 := HB.out.size
        simp at h1
        omega)
      have HP2 := Lib.hid P2
      clear B2 P2
      go_loopw [26] (fun i wq => ∃ (j : Nat) (n0 n1 s0 s1 : Int), j ≤ n ∧ i = .int .i64 j ∧ Pairs wq wo.heap.size (wo.heap.size + 1) n0 n1 s0 s1 ∧ Hid (n0 = cntIn z 0 T j ∧ n1 = cntIn z T 256 j ∧ s0 = sumIn z 0 T j ∧ s1 = sumIn z T 256 j) ∧ Below wo.heap.size w2 wq) (fun i _ => n - (intOf i).toNat)
      case atStart => exact ⟨0, 0, 0, 0, 0, Nat.zero_le _, rfl, HP2.out, Lib.hid ⟨rfl, rfl, rfl, rfl⟩, Below.refl _ _⟩
      case round =>
        obtain ⟨j, n0, n1, s0, s1, hj, rfl, hpr, hq, hbq⟩ := hrel
        have d2 := (hbq.cell (p := ⟨w.heap.size, 2, none⟩) l2).trans c2'
        have HBQ := Lib.hid hbq
        have HPR := Lib.hid hpr
        have nb0 := cntIn_bounds z 0 T j
        have nb1 := cntIn_bounds z T 256 j
        have sb0 := sumIn_bounds z HZ.out 0 T j
        have sb1 := sumIn_bounds z HZ.out T 256 j
        rw [← hq.out.1] at nb0 sb0
        rw [← hq.out.2.1] at nb1 sb1
        rw [← hq.out.2.2.1] at sb0
        rw [← hq.out.2.2.2] at sb1
        obtain ⟨f0, f1, f2, f3⟩ := block2 hpr.1
        obtain ⟨h0, h1, h2, h3⟩ := block2 hpr.2
        by_cases hltj : j < n
        · have hck := (hbq.cell (p := ⟨g, o + j, none⟩) (HL2.out j hltj)).trans (HC2.out j hltj)
          have hqb := HZ.out j
          clear hbq hpr
          by_cases hT' : z j < (T : Int)
          · have hst := cnt_low hqb hT'
            rw [← hq.out.1, ← hq.out.2.1, ← hq.out.2.2.1, ← hq.out.2.2.2] at hst
            obtain ⟨p, hp⟩ : ∃ p, p = z j := ⟨_, rfl⟩
            rw [← hp] at hck hqb hT' hst
            have HST := Lib.hid hst
            have HPP := Lib.hid (HPR.out.low (by omega) (n0 + 1) (s0 + p))
            clear hst hp
            go_wp2_with fail
            go_roundw
            case rel => exact ⟨j + 1, n0 + 1, n1, s0 + p, s1, by omega, by go_num, HPP.out, Lib.hid ⟨HST.out.1.symm, HST.out.2.1.symm, HST.out.2.2.1.symm, HST.out.2.2.2.symm⟩, (HBQ.out.setCell (by simp) _).setCell (by simp) _⟩
            case measure => simp [intOf]; omega
          · have hst := cnt_high hqb (by omega : (T : Int) ≤ z j)
            rw [← hq.out.1, ← hq.out.2.1, ← hq.out.2.2.1, ← hq.out.2.2.2] at hst
            obtain ⟨p, hp⟩ : ∃ p, p = z j := ⟨_, rfl⟩
            rw [← hp] at hck hqb hT' hst
            have hT2 : (T : Int) ≤ p := by omega
            have HST := Lib.hid hst
            have HPP := Lib.hid (HPR.out.high (by omega) (n1 + 1) (s1 + p))
            clear hst hp hT'
            go_wp2_with fail
            go_roundw
            case rel => exact ⟨j + 1, n0, n1 + 1, s0, s1 + p, by omega, by go_num, HPP.out, Lib.hid ⟨HST.out.1.symm, HST.out.2.1.symm, HST.out.2.2.1.symm, HST.out.2.2.2.symm⟩, (HBQ.out.setCell (by simp) _).setCell (by simp) _⟩
            case measure => simp [intOf]; omega
        · obtain rfl : j = n := by omega
          clear hbq hpr
          by_cases e0 : n0 = 0
          · subst e0
            have hres := Lib.hid ((levelGo_stop (k := 99 - k) (.inl hq.out.1.symm)).symm.trans HG.out)
            go_wp2_with fail
            go_ret
            exact ⟨by rw [HT0.out, ← hres.out]; rfl, (below_step (below_step HB1.out HB.out) HB2.out).trans (HBQ.out.mono (by have := HB1.out.size; have := HB.out.size; omega))⟩
          · have e0' : (n0 == 0) = false := by simpa using e0
            have g0 : 1 ≤ n0 := by omega
            by_cases e1 : n1 = 0
            · subst e1
              have hres := Lib.hid ((levelGo_stop (k := 99 - k) (.inr hq.out.2.1.symm)).symm.trans HG.out)
              clear e0
              go_wp2_with fail
              go_ret
              exact ⟨by rw [HT0.out, ← hres.out]; rfl, (below_step (below_step HB1.out HB.out) HB2.out).trans (HBQ.out.mono (by have := HB1.out.size; have := HB.out.size; omega))⟩
            · have e1' : (n1 == 0) = false := by simpa using e1
              have g1 : 1 ≤ n1 := by omega
              have hst : ¬ (cntIn z 0 T j = 0 ∨ cntIn z T 256 j = 0) := by rw [← hq.out.1, ← hq.out.2.1]; omega
              have m0 := meanIn_bounds z HZ.out 0 T j (fun h => hst (.inl h))
              have m1 := meanIn_bounds z HZ.out T 256 j (fun h => hst (.inr h))
              have hnx : levelNext z j T = (meanIn z 0 T j + meanIn z T 256 j + 1) / 2 := rfl
              rw [show meanIn z 0 T j = s0 / n0 by unfold meanIn; rw [← hq.out.1, ← hq.out.2.2.1]] at m0 hnx
              rw [show meanIn z T 256 j = s1 / n1 by unfold meanIn; rw [← hq.out.2.1, ← hq.out.2.2.2]] at m1 hnx
              have t0 : s0.tdiv n0 = s0 / n0 := Int.tdiv_eq_ediv_of_nonneg sb0.1
              have t1 : s1.tdiv n1 = s1 / n1 := Int.tdiv_eq_ediv_of_nonneg sb1.1
              obtain ⟨A, hA⟩ : ∃ A, s0 / n0 = A := ⟨_, rfl⟩
              obtain ⟨B, hB⟩ : ∃ B, s1 / n1 = B := ⟨_, rfl⟩
              rw [hA] at m0 hnx t0
              rw [hB] at m1 hnx t1
              have w0 : IntKind.i64.wrap A = A := IntWalk.i64_in _ (by omega)
              have w1' : IntKind.i64.wrap B = B := IntWalk.i64_in _ (by omega)
              have w2' : IntKind.i64.wrap (A + B) = A + B := IntWalk.i64_in _ (by omega)
              have w3' : IntKind.i64.wrap (A + B + 1) = A + B + 1 := IntWalk.i64_in _ (by omega)
              have t2 : (A + B + 1).tdiv 2 = (A + B + 1) / 2 := Int.tdiv_eq_ediv_of_nonneg (by omega)
              obtain ⟨X, hX⟩ : ∃ X : Nat, (A + B + 1) / 2 = (X : Int) := Int.eq_ofNat_of_zero_le (by omega)
              have hX1 : X ≤ 255 := by omega
              have w4' : IntKind.i64.wrap (X : Int) = (X : Int) := IntWalk.i64_in _ (by omega)
              have HST := Lib.hid hst
              have HNX := Lib.hid (hnx.trans hX)
              have HFIN := Lib.hid ((below_step (below_step HB1.out HB.out) HB2.out).trans (HBQ.out.mono (by have := HB1.out.size; have := HB.out.size; omega)))
              have HFIN2 := Lib.hid ((below_step HB.out HB2.out).trans (HBQ.out.mono HB.out.size))
              clear e0 e1 hst hnx
              by_cases heq : X = T
              · subst heq
                have hres := Lib.hid ((levelGo_same (k := 99 - k) HST.out HNX.out).symm.trans HG.out)
                go_wp2_with fail
                go_quiet (fail)
                go_wp2_with fail
                go_ret
                exact ⟨by rw [HT0.out, ← hres.out]; rfl, below_drewN HFIN.out _⟩
              · have hne : ((X : Int) == (T : Int)) = false := by simpa using (by omega : ¬ (X : Int) = (T : Int))
                have hne' : (X == T) = false := by simpa using heq
                have hres := Lib.hid ((levelGo_next (k := 99 - k) HST.out (by rw [HNX.out]; omega)).symm.trans HG.out)
                clear heq
                go_wp2_with fail
                go_quiet (fail)
                go_wp2_with fail
                go_roundw
                case rel => exact ⟨k + 1, X, by omega, by go_num, rfl, hX1, Lib.hid (by rw [show 100 - (k + 1) = 99 - k by omega, ← HNX.out]; exact hres.out), below_drewN HFIN2.out _⟩
                case measure => simp [intOf]; omega
    · obtain rfl : k = 100 := by omega
      have hres := Lib.hid (show (T : Int) = levelGo z n 100 (T0 : Int) from hg.out)
      have HB := Lib.hid hb
      clear hg hb
      go_wp2_with fail
      go_ret
      exact ⟨by rw [HT0.out, ← hres.out]; rfl, below_step HB1.out HB.out⟩

end Go.Proofs.Ytcpgnfbjdokdcaa
namespace Go.Proofs.Ytcpgnfbjdokdcaa
open Go.RowKit
set_option linter.unusedSimpArgs false
set_option linter.unusedVariables false

def smB (c : Int) : Bool := decide (97 ≤ c ∧ c ≤ 122)
def dgB (c : Int) : Bool := decide (48 ≤ c ∧ c ≤ 57)

theorem isSmall_any (c : Int) (w : World) : Calls Try.prog 93 #[.int .u8 c] w fun e w' => e = .returned (.bool (smB c)) ∧ w = w' := by
  by_cases h1 : 97 ≤ c
  · by_cases h2 : c ≤ 122
    · have H := Lib.hid (show smB c = true from decide_eq_true ⟨h1, h2⟩)
      go_enter Try.func93, Try.ntmps93
      go_wp2
      go_ret
      exact ⟨ret_bool H.out.symm, rfl⟩
    · have H := Lib.hid (show smB c = false from decide_eq_false (fun k => h2 k.2))
      go_enter Try.func93, Try.ntmps93
      go_wp2
      go_ret
      exact ⟨ret_bool H.out.symm, rfl⟩
  · have H := Lib.hid (show smB c = false from decide_eq_false (fun k => h1 k.1))
    go_enter Try.func93, Try.ntmps93
    go_wp2
    go_ret
    exact ⟨ret_bool H.out.symm, rfl⟩

theorem isDigit_any (c : Int) (w : World) : Calls Try.prog 94 #[.int .u8 c] w fun e w' => e = .returned (.bool (dgB c)) ∧ w = w' := by
  by_cases h1 : 48 ≤ c
  · by_cases h2 : c ≤ 57
    · have H := Lib.hid (show dgB c = true from decide_eq_true ⟨h1, h2⟩)
      go_enter Try.func94, Try.ntmps94
      go_wp2
      go_ret
      exact ⟨ret_bool H.out.symm, rfl⟩
    · have H := Lib.hid (show dgB c = false from decide_eq_false (fun k => h2 k.2))
      go_enter Try.func94, Try.ntmps94
      go_wp2
      go_ret
      exact ⟨ret_bool H.out.symm, rfl⟩
  · have H := Lib.hid (show dgB c = false from decide_eq_false (fun k => h1 k.1))
    go_enter Try.func94, Try.ntmps94
    go_wp2
    go_ret
    exact ⟨ret_bool H.out.symm, rfl⟩

/-- The byte at a place, as a number. -/
def byteAt (s : ByteArray) (k : Nat) : Int := ((s.data.toList.getD k 0).toNat : Int)
theorem byteAt_get (s : ByteArray) (k : Nat) (h : k < s.size) : (s[k].toNat : Int) = byteAt s k := by
  unfold byteAt
  rw [List.getD_eq_getElem?_getD, List.getElem?_eq_getElem (by simpa using h)]
  rfl

def goodB (s : ByteArray) (k : Nat) : Bool := smB (byteAt s k) || (decide (k ≠ 0) && (dgB (byteAt s k) || decide (byteAt s k = 45)))
def NameP (s : ByteArray) : Prop := (1 ≤ s.size ∧ s.size ≤ 40) ∧ ∀ k, k < s.size → goodB s k = true

/-- It returns a bool that says whether P. -/
def SaysIf (P : Prop) (w : World) (e : Ending) (w' : World) : Prop := ∃ q, e = .returned (.bool q) ∧ (q = true ↔ P) ∧ w = w'
theorem says_no {P : Prop} {w : World} (h : ¬ P) : SaysIf P w (.returned (.bool false)) w := ⟨false, rfl, by simp [h], rfl⟩
theorem says_yes {P : Prop} {w : World} (h : P) : SaysIf P w (.returned (.bool true)) w := ⟨true, rfl, by simp [h], rfl⟩

theorem good_next {s : ByteArray} {k : Nat} (h : Hid (∀ j, j < k → goodB s j = true)) (hk : Hid (goodB s k = true)) : Hid (∀ j, j < k + 1 → goodB s j = true) :=
  Lib.hid fun j hj => by
    by_cases e : j = k
    · rw [e]; exact hk.out
    · exact h.out j (by omega)

set_option maxHeartbeats 400000 in
theorem isName_any (s : ByteArray) (w : World) (hs : s.size ≤ 9223372036854775807) : Calls Try.prog 15 #[.string s] w (SaysIf (NameP s) w) := by
  by_cases h1 : 1 ≤ s.size
  · by_cases h2 : s.size ≤ 40
    · have d1 : decide ((s.size : Int) < 1) = false := by simp; omega
      have d2 : decide ((40 : Int) < (s.size : Int)) = false := by simp; omega
      have hlt0 : 0 < s.size := by omega
      have E0 := Lib.hid (byteAt_get s 0 hlt0)
      by_cases hb : smB (s[0].toNat : Int) = true
      · have HB := Lib.hid (show smB (byteAt s 0) = true by rw [← E0.out]; exact hb)
        have H1 := Lib.hid h1
        have H2 := Lib.hid h2
        clear h1 h2
        go_enter Try.func15, Try.ntmps15
        go_wp2_with (first | (go_at_call 93; refine (isSmall_any _ _).mono ?_; rintro e w' ⟨rfl, rfl⟩) | (go_at_call 94; refine (isDigit_any _ _).mono ?_; rintro e w' ⟨rfl, rfl⟩))
        clear hb
        go_loop [21] (fun i => ∃ k : Nat, k ≤ s.size ∧ i = .int .i64 k ∧ Hid (∀ j, j < k → goodB s j = true)) (fun i => s.size - (intOf i).toNat)
        case atStart => exact ⟨0, Nat.zero_le _, rfl, fun j hj => by omega⟩
        case round =>
          obtain ⟨k, hk, rfl, hG⟩ := hrel
          by_cases hlt : k < s.size
          · have E := Lib.hid (byteAt_get s k hlt)
            by_cases a1 : smB (s[k].toNat : Int) = true
            · have hg := Lib.hid (show goodB s k = true by unfold goodB; rw [← E.out, a1]; rfl)
              go_wp2_with (first | (go_at_call 93; refine (isSmall_any _ _).mono ?_; rintro e w' ⟨rfl, rfl⟩) | (go_at_call 94; refine (isDigit_any _ _).mono ?_; rintro e w' ⟨rfl, rfl⟩))
              go_round
              case rel => exact ⟨k + 1, by omega, by go_num, good_next hG hg⟩
              case measure => simp [intOf]; omega
            · have a1' : smB (s[k].toNat : Int) = false := by simpa using a1
              have K0 := Lib.hid (show k ≠ 0 from fun e => a1 (by subst e; rw [E.out]; exact HB.out))
              clear a1
              by_cases a2 : dgB (s[k].toNat : Int) = true
              · have hg := Lib.hid (show goodB s k = true by unfold goodB; rw [← E.out, a1', a2]; simp [K0.out])
                go_wp2_with (first | (go_at_call 93; refine (isSmall_any _ _).mono ?_; rintro e w' ⟨rfl, rfl⟩) | (go_at_call 94; refine (isDigit_any _ _).mono ?_; rintro e w' ⟨rfl, rfl⟩))
                go_round
                case rel => exact ⟨k + 1, by omega, by go_num, good_next hG hg⟩
                case measure => simp [intOf]; omega
              · have a2' : dgB (s[k].toNat : Int) = false := by simpa using a2
                clear a2
                by_cases a3 : (s[k].toNat : Int) = 45
                · have a3' : ((s[k].toNat : Int) != 45) = false := by simpa using a3
                  have hg := Lib.hid (show goodB s k = true by unfold goodB; rw [← E.out, a1', a2']; simp [K0.out]; omega)
                  clear a3
                  go_wp2_with (first | (go_at_call 93; refine (isSmall_any _ _).mono ?_; rintro e w' ⟨rfl, rfl⟩) | (go_at_call 94; refine (isDigit_any _ _).mono ?_; rintro e w' ⟨rfl, rfl⟩))
                  go_round
                  case rel => exact ⟨k + 1, by omega, by go_num, good_next hG hg⟩
                  case measure => simp [intOf]; omega
                · have a3' : ((s[k].toNat : Int) != 45) = true := by simpa using a3
                  have hg := Lib.hid (show goodB s k = false by unfold goodB; rw [← E.out, a1', a2']; simp; omega)
                  clear a3
                  go_wp2_with (first | (go_at_call 93; refine (isSmall_any _ _).mono ?_; rintro e w' ⟨rfl, rfl⟩) | (go_at_call 94; refine (isDigit_any _ _).mono ?_; rintro e w' ⟨rfl, rfl⟩))
                  go_ret
                  exact says_no (fun hP => by have := hP.2 k hlt; rw [hg.out] at this; cases this)
          · go_wp2_with (first | (go_at_call 93; refine (isSmall_any _ _).mono ?_; rintro e w' ⟨rfl, rfl⟩) | (go_at_call 94; refine (isDigit_any _ _).mono ?_; rintro e w' ⟨rfl, rfl⟩))
            go_ret
            exact says_yes ⟨⟨H1.out, H2.out⟩, fun j hj => hG.out j (by omega)⟩
      · have hb' : smB (s[0].toNat : Int) = false := by simpa using hb
        have HB := Lib.hid (show goodB s 0 = false by unfold goodB; rw [← E0.out, hb']; rfl)
        clear hb
        go_enter Try.func15, Try.ntmps15
        go_wp2_with (first | (go_at_call 93; refine (isSmall_any _ _).mono ?_; rintro e w' ⟨rfl, rfl⟩) | (go_at_call 94; refine (isDigit_any _ _).mono ?_; rintro e w' ⟨rfl, rfl⟩))
        go_ret
        exact says_no (fun hP => by have := hP.2 0 hlt0; rw [HB.out] at this; cases this)
    · go_enter Try.func15, Try.ntmps15
      go_wp2_with (first | (go_at_call 93; refine (isSmall_any _ _).mono ?_; rintro e w' ⟨rfl, rfl⟩) | (go_at_call 94; refine (isDigit_any _ _).mono ?_; rintro e w' ⟨rfl, rfl⟩))
      go_ret
      exact says_no (fun hP => by have := hP.1; omega)
  · go_enter Try.func15, Try.ntmps15
    go_wp2_with (first | (go_at_call 93; refine (isSmall_any _ _).mono ?_; rintro e w' ⟨rfl, rfl⟩) | (go_at_call 94; refine (isDigit_any _ _).mono ?_; rintro e w' ⟨rfl, rfl⟩))
    go_ret
    exact says_no (fun hP => by have := hP.1; omega)

end Go.Proofs.Ytcpgnfbjdokdcaa
namespace Go.Proofs.Ytcpgnfbjdokdcaa
open Go.RowKit
set_option linter.unusedSimpArgs false
set_option linter.unusedVariables false

theorem landed_any (w : World) : Calls Try.prog 73 #[] w fun e w' => e = .returned (.bool true) ∧ w = w' := by
  go_enter Try.func73, Try.ntmps73
  go_wp2_with fail
  refine (isName_any _ _ (by decide)).mono ?_
  rintro e w1 ⟨b, rfl, hb, rfl⟩
  have hn : NameP ⟨#[97]⟩ := ⟨⟨by decide, by decide⟩, fun k hk => by
    obtain rfl : k = 0 := by have : (ByteArray.mk #[97]).size = 1 := rfl; omega
    decide⟩
  obtain rfl : b = true := hb.2 hn
  go_wp2_with fail
  go_ret
  exact ⟨rfl, rfl⟩

end Go.Proofs.Ytcpgnfbjdokdcaa
