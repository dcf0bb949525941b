/-
  What top_straight_holds leans on: contracts of the functions that it calls.
-/
import Derived.Test.YtofcojcfcpfdmaaRows
import Derived.WalkKit
import Derived.WalkSpells
import Derived.WalkLawsBesides
import Derived.Lib.Hide
import Derived.Deep.RegionHeld3
import Derived.Shelf.Abstract
import Derived.Deep.AppendLies
import Derived.Deep.DrawnRows
import Derived.Deep.RegionLaw
import Derived.Deep.QuietTactic
import Derived.BigQuiet
import Derived.ProofKit
import Derived.OpenShut
import Derived.ShutString
import Derived.ChangeOld
import Derived.Lib.SmallJoins
import Derived.Deep.Grids
import Derived.Deep.DeepCutAuto
import Derived.Lib.MinMax
import Derived.Deep.CutRange
import Derived.Laws.EntriesVeiled
import Derived.StillTailTactics
import Derived.RegionTactic
import Derived.ChangeAlike
import Derived.BigRegion
import Derived.Test.YtofcojcfcpfdmaaCTop3
namespace Go.Proofs.Ytofcojcfcpfdmaa
open Go.RowKit
set_option linter.unusedSimpArgs false
set_option linter.unusedVariables false

set_option maxRecDepth 100000 in
theorem clone_any (g o n c : Nat) (z : Nat → Bool) (w : World) (hn : 1 ≤ n) (hn' : n ≤ 1048576) (hc : ∀ j, j < n → w.cell? ⟨g, o + j, none⟩ = some (.bool (z j))) :
    Calls Try.prog 80 #[.slice (some ⟨g, o, none⟩) n c] w fun e w' =>
      ∃ v, e = .returned v ∧ w'.ownsRow w.heap.size 4 1 v n ((List.range n).map fun k => Value.bool (z k)) ∧ Below w.heap.size w w' := by
  have qT : ∀ (w : World) (a : Option Addr) (n c n' c' : Nat), (binOp .eql 38 (.slice a n c) (.slice none n' c')).run Try.prog w = .ok (.bool a.isNone) w := fun w a n c n' c' => Lib.run_eql_slice_nil w _ _ a n c n' c' Try.underlying38
  obtain ⟨i0, hi, hz0, hz1, hz2⟩ := info_parts info_bool
  have HC := Lib.hid hc
  clear hc
  go_enter Try.func80, Try.ntmps80
  have hown : (w.alloc (.cells #[] 4)).ownsRow w.heap.size 4 1 (.slice (some ⟨w.heap.size, 0, none⟩) 0 0) 0 [] := World.ownsRow_made w #[] 0 (Nat.le_refl _) (by unfold maxLen; omega) rfl
  have HN := Lib.hid (show ∀ j u, ((List.range n).map fun k => Value.bool (z k))[j]? = some u → (w.alloc (.cells #[] 4)).cell? ((⟨g, o, none⟩ : Addr).add j) = some u by
    intro j u hu
    rw [List.getElem?_map] at hu
    by_cases hj : j < n
    · rw [List.getElem?_range hj] at hu
      simp at hu
      subst hu
      rw [Addr.add_lit]
      exact cell_later (new_below _ _) (HC.out j hj)
    · rw [List.getElem?_eq_none (by simpa using hj)] at hu
      simp at hu)
  have HO := Lib.hid hown
  clear hown
  go_wp2_with (at_builtin; refine wpList_append_own _ rfl _ _ 38 rfl w.heap.size 4 i0 (.bool false) 1 1 Try.underlying38 hi hz0 hz1 hz2 rfl (by decide) _ _ _ rfl HO.out ⟨g, o, none⟩ n c ((List.range n).map fun k => Value.bool (z k)) rfl ?c0 HN.out ?c2 ?c3 ?c4 ?c5 ?_)
  case c0 => simp
  case c2 => intro u hu; simp at hu; obtain ⟨k, _, rfl⟩ := hu; rfl
  case c3 => unfold maxLen; omega
  case c4 => omega
  case c5 => simp
  · intro v' w2 hown2 hgr2 _
    have B2 : Below w.heap.size w w2 := (new_below w (.cells #[] 4)).grown hgr2 (by simp) (fun k hk => by simp [Value.ownBlock] at hk; omega)
    have H2 := Lib.hid hown2
    clear hown2 hgr2
    go_wp2_with fail
    go_ret
    exact ⟨v', rfl, H2.out, B2⟩

theorem overlap_far (W S x : Int) (w : World) (hW : 1 ≤ W ∧ W ≤ 4000) (hS : 1 ≤ S ∧ S ≤ 4000) (h : W ≤ x ∨ x ≤ - S) :
    Calls Try.prog 81 #[.int .i64 W, .int .i64 S, .int .i64 x] w fun e w' => e = .returned (.tuple #[.int .i64 0, .int .i64 0]) ∧ w = w' := by
  by_cases h1 : W ≤ x
  · clear h
    go_enter Try.func81, Try.ntmps81
    go_wp2_with fail
    go_ret2
    exact ⟨rfl, rfl⟩
  · have h2 : x ≤ - S := by omega
    clear h
    go_enter Try.func81, Try.ntmps81
    go_wp2_with fail
    go_ret2
    exact ⟨rfl, rfl⟩

theorem overlap_near (W S x : Int) (w : World) (hW : 1 ≤ W ∧ W ≤ 4000) (hS : 1 ≤ S ∧ S ≤ 4000) (h1 : x < W) (h2 : - S < x) :
    Calls Try.prog 81 #[.int .i64 W, .int .i64 S, .int .i64 x] w fun e w' => e = .returned (.tuple #[.int .i64 (max (-x) 0), .int .i64 (min S (W - x))]) ∧ w = w' := by
  go_enter Try.func81, Try.ntmps81
  go_wp2_with fail
  go_ret2
  exact ⟨rfl, rfl⟩

end Go.Proofs.Ytofcojcfcpfdmaa
namespace Go.Proofs.Ytofcojcfcpfdmaa
open Go.RowKit
set_option linter.unusedSimpArgs false
set_option linter.unusedVariables false

/-- From f to t a side of length S that begins at x lies in a side of length W, and nothing else of it does. -/
def OvOK (W S : Nat) (x : Int) (f t : Nat) : Prop :=
  f ≤ t ∧ t ≤ 4000 ∧ (∀ i : Nat, f ≤ i → i < t → i < S ∧ 0 ≤ x + i ∧ x + i < W) ∧ ∀ a : Nat, a < W → 0 ≤ (a : Int) - x → (a : Int) - x < S → (f : Int) ≤ a - x ∧ (a : Int) - x < t

theorem overlap_any (W S : Nat) (x : Int) (w : World) (hW : 1 ≤ W ∧ W ≤ 4000) (hS : 1 ≤ S ∧ S ≤ 4000) :
    Calls Try.prog 81 #[.int .i64 W, .int .i64 S, .int .i64 x] w fun e w' => ∃ f t : Nat, e = .returned (.tuple #[.int .i64 f, .int .i64 t]) ∧ OvOK W S x f t ∧ w = w' := by
  by_cases h : (W : Int) ≤ x ∨ x ≤ - (S : Int)
  · refine (overlap_far W S x w (by omega) (by omega) h).mono ?_
    rintro e w' ⟨rfl, rfl⟩
    refine ⟨0, 0, rfl, ⟨Nat.le_refl _, by omega, fun i h1 h2 => by omega, fun a h1 h2 h3 => by omega⟩, rfl⟩
  · refine (overlap_near W S x w (by omega) (by omega) (by omega) (by omega)).mono ?_
    rintro e w' ⟨rfl, rfl⟩
    obtain ⟨f, hf⟩ := Int.eq_ofNat_of_zero_le (show 0 ≤ max (-x) 0 by omega)
    obtain ⟨t, ht⟩ := Int.eq_ofNat_of_zero_le (show 0 ≤ min (S : Int) (W - x) by omega)
    refine ⟨f, t, by rw [hf, ht], ⟨by omega, by omega, fun i h1 h2 => by omega, fun a h1 h2 h3 => by omega⟩, rfl⟩

/-- The place (a, b) lies in the other page. -/
def InC (Wc Hc : Nat) (x y : Int) (a b : Nat) : Prop := (0 ≤ (a : Int) - x ∧ (a : Int) - x < Wc) ∧ (0 ≤ (b : Int) - y ∧ (b : Int) - y < Hc)
instance (Wc Hc : Nat) (x y : Int) (a b : Nat) : Decidable (InC Wc Hc x y a b) := by unfold InC; infer_instance

/-- A place of the page with the other one pasted. -/
def pasteAt (W Wc Hc : Nat) (x y : Int) (z1 z2 : Nat → Bool) (a b : Nat) : Bool :=
  z1 (b * W + a) || (decide (InC Wc Hc x y a b) && z2 (((b : Int) - y).toNat * Wc + ((a : Int) - x).toNat))

/-- .. when rows before j and places before i of row j have been pasted. -/
def pasteVal (W Wc Hc : Nat) (x y : Int) (z1 z2 : Nat → Bool) (j i k : Nat) : Bool :=
  z1 k || (decide (InC Wc Hc x y (k % W) (k / W) ∧ ((((k / W : Nat) : Int) - y < j) ∨ (((k / W : Nat) : Int) - y = j ∧ ((k % W : Nat) : Int) - x < i))) && z2 ((((k / W : Nat) : Int) - y).toNat * Wc + (((k % W : Nat) : Int) - x).toNat))

def pasteList (W n Wc Hc : Nat) (x y : Int) (z1 z2 : Nat → Bool) (j i : Nat) : List Value := (List.range n).map fun k => Value.bool (pasteVal W Wc Hc x y z1 z2 j i k)

theorem divmod_wh {W H k : Nat} (hW : 1 ≤ W) (hk : k < W * H) : k % W < W ∧ k / W < H :=
  ⟨Nat.mod_lt _ (by omega), Nat.div_lt_of_lt_mul hk⟩

theorem pasteList_start (W H Wc Hc : Nat) (x y : Int) (z1 z2 : Nat → Bool) (fx tx fy ty : Nat) (hW : 1 ≤ W) (hx : OvOK W Wc x fx tx) (hy : OvOK H Hc y fy ty) :
    pasteList W (W * H) Wc Hc x y z1 z2 fy fx = (List.range (W * H)).map fun k => Value.bool (z1 k) := by
  unfold pasteList
  apply List.map_congr_left
  intro k hk
  have hk' : k < W * H := by simpa using hk
  obtain ⟨m1, m2⟩ := divmod_wh hW hk'
  have : ¬ (InC Wc Hc x y (k % W) (k / W) ∧ ((((k / W : Nat) : Int) - y < fy) ∨ (((k / W : Nat) : Int) - y = fy ∧ ((k % W : Nat) : Int) - x < fx))) := by
    rintro ⟨⟨⟨c1, c2⟩, ⟨c3, c4⟩⟩, h⟩
    have h1 := hx.2.2.2 _ m1 c1 c2
    have h2 := hy.2.2.2 _ m2 c3 c4
    omega
  unfold pasteVal
  rw [decide_eq_false this]
  simp

theorem pasteList_row (W H Wc Hc : Nat) (x y : Int) (z1 z2 : Nat → Bool) (fx tx j : Nat) (hW : 1 ≤ W) (hx : OvOK W Wc x fx tx) :
    pasteList W (W * H) Wc Hc x y z1 z2 j tx = pasteList W (W * H) Wc Hc x y z1 z2 (j + 1) fx := by
  unfold pasteList
  apply List.map_congr_left
  intro k hk
  have hk' : k < W * H := by simpa using hk
  obtain ⟨m1, m2⟩ := divmod_wh hW hk'
  have : (InC Wc Hc x y (k % W) (k / W) ∧ ((((k / W : Nat) : Int) - y < j) ∨ (((k / W : Nat) : Int) - y = j ∧ ((k % W : Nat) : Int) - x < tx))) ↔ (InC Wc Hc x y (k % W) (k / W) ∧ ((((k / W : Nat) : Int) - y < (j + 1 : Nat)) ∨ (((k / W : Nat) : Int) - y = (j + 1 : Nat) ∧ ((k % W : Nat) : Int) - x < fx))) := by
    constructor
    · rintro ⟨hc, h⟩
      exact ⟨hc, by omega⟩
    · rintro ⟨hc, h⟩
      have h1 := hx.2.2.2 _ m1 hc.1.1 hc.1.2
      exact ⟨hc, by omega⟩
  unfold pasteVal
  rw [decide_eq_decide.2 this]

theorem pasteList_end (W H Wc Hc : Nat) (x y : Int) (z1 z2 : Nat → Bool) (fx fy ty : Nat) (hW : 1 ≤ W) (hy : OvOK H Hc y fy ty) (k : Nat) (hk : k < W * H) :
    pasteVal W Wc Hc x y z1 z2 ty fx k = pasteAt W Wc Hc x y z1 z2 (k % W) (k / W) := by
  obtain ⟨m1, m2⟩ := divmod_wh hW hk
  have : (InC Wc Hc x y (k % W) (k / W) ∧ ((((k / W : Nat) : Int) - y < ty) ∨ (((k / W : Nat) : Int) - y = ty ∧ ((k % W : Nat) : Int) - x < fx))) ↔ InC Wc Hc x y (k % W) (k / W) := by
    constructor
    · exact fun h => h.1
    · intro hc
      have h2 := hy.2.2.2 _ m2 hc.2.1 hc.2.2
      exact ⟨hc, by omega⟩
  unfold pasteVal pasteAt
  rw [decide_eq_decide.2 this, show k / W * W + k % W = k by rw [Nat.mul_comm]; exact Nat.div_add_mod k W]

theorem pasteList_step (W H Wc Hc : Nat) (x y : Int) (z1 z2 : Nat → Bool) (j i a b : Nat) (hW : 1 ≤ W) (ha : (a : Int) = x + i) (hb : (b : Int) = y + j) (haW : a < W) (hbH : b < H) (hi : i < Wc) (hj : j < Hc) :
    pasteList W (W * H) Wc Hc x y z1 z2 j (i + 1) = if z2 (j * Wc + i) = true then (pasteList W (W * H) Wc Hc x y z1 z2 j i).set (b * W + a) (.bool true) else pasteList W (W * H) Wc Hc x y z1 z2 j i := by
  have hdm : (b * W + a) / W = b ∧ (b * W + a) % W = a := by
    rw [Nat.mul_comm]
    exact ⟨by rw [Nat.mul_add_div (by omega), Nat.div_eq_of_lt haW, Nat.add_zero], by rw [Nat.mul_add_mod, Nat.mod_eq_of_lt haW]⟩
  have key : ∀ k, k < W * H → pasteVal W Wc Hc x y z1 z2 j (i + 1) k = if k = b * W + a then (pasteVal W Wc Hc x y z1 z2 j i k || z2 (j * Wc + i)) else pasteVal W Wc Hc x y z1 z2 j i k := by
    intro k hk
    obtain ⟨m1, m2⟩ := divmod_wh hW hk
    by_cases hkk : k = b * W + a
    · rw [if_pos hkk]
      subst hkk
      unfold pasteVal
      rw [hdm.1, hdm.2]
      have c1 : InC Wc Hc x y a b ∧ (((b : Int) - y < j) ∨ ((b : Int) - y = j ∧ (a : Int) - x < (i + 1 : Nat))) := ⟨⟨⟨by omega, by omega⟩, ⟨by omega, by omega⟩⟩, by omega⟩
      have c2 : ¬ (InC Wc Hc x y a b ∧ (((b : Int) - y < j) ∨ ((b : Int) - y = j ∧ (a : Int) - x < (i : Nat)))) := by rintro ⟨_, h⟩; omega
      rw [decide_eq_true c1, decide_eq_false c2, show ((b : Int) - y).toNat = j by omega, show ((a : Int) - x).toNat = i by omega]
      simp
    · rw [if_neg hkk]
      have : (InC Wc Hc x y (k % W) (k / W) ∧ ((((k / W : Nat) : Int) - y < j) ∨ (((k / W : Nat) : Int) - y = j ∧ ((k % W : Nat) : Int) - x < (i + 1 : Nat)))) ↔ (InC Wc Hc x y (k % W) (k / W) ∧ ((((k / W : Nat) : Int) - y < j) ∨ (((k / W : Nat) : Int) - y = j ∧ ((k % W : Nat) : Int) - x < i))) := by
        constructor
        · rintro ⟨hc, h⟩
          refine ⟨hc, ?_⟩
          rcases h with h | ⟨h1, h2⟩
          · exact .inl h
          · by_cases h3 : ((k % W : Nat) : Int) - x < i
            · exact .inr ⟨h1, h3⟩
            · exfalso
              apply hkk
              have e1 : k / W = b := by omega
              have e2 : k % W = a := by omega
              have := Nat.div_add_mod k W
              rw [e1, e2, Nat.mul_comm] at this
              omega
        · rintro ⟨hc, h⟩
          exact ⟨hc, by omega⟩
      unfold pasteVal
      rw [decide_eq_decide.2 this]
  by_cases hz : z2 (j * Wc + i) = true
  · rw [if_pos hz]
    apply List.ext_getElem
    · simp [pasteList]
    · intro k h1 h2
      have hk : k < W * H := by simpa [pasteList] using h1
      rw [List.getElem_set]
      simp only [pasteList, List.getElem_map, List.getElem_range]
      rw [key k hk]
      by_cases hkk : k = b * W + a
      · rw [if_pos hkk, if_pos hkk.symm, hz]; simp
      · rw [if_neg hkk, if_neg (fun e => hkk e.symm)]
  · rw [if_neg hz]
    have hz' : z2 (j * Wc + i) = false := by simpa using hz
    unfold pasteList
    apply List.map_congr_left
    intro k hk
    rw [key k (by simpa using hk)]
    by_cases hkk : k = b * W + a
    · rw [if_pos hkk, hz', Bool.or_false]
    · rw [if_neg hkk]

end Go.Proofs.Ytofcojcfcpfdmaa
namespace Go.Proofs.Ytofcojcfcpfdmaa
open Go.RowKit
set_option linter.unusedSimpArgs false
set_option linter.unusedVariables false

set_option maxHeartbeats 2000000 in
set_option maxRecDepth 100000 in
theorem paste_ok (W H Wc Hc n1 n2 g1 o1 c1 g2 o2 c2 : Nat) (x y : Int) (z1 z2 : Nat → Bool) (w : World) (he1 : sizeErr W H = 0) (he2 : sizeErr Wc Hc = 0) (hn1 : n1 = W * H) (hn2 : n2 = Wc * Hc)
    (hc1 : ∀ j, j < n1 → w.cell? ⟨g1, o1 + j, none⟩ = some (.bool (z1 j))) (hc2 : ∀ j, j < n2 → w.cell? ⟨g2, o2 + j, none⟩ = some (.bool (z2 j))) :
    Calls Try.prog 26 #[.agg #[.int .i64 W, .int .i64 H, .slice (some ⟨g1, o1, none⟩) n1 c1], .agg #[.int .i64 Wc, .int .i64 Hc, .slice (some ⟨g2, o2, none⟩) n2 c2], .int .i64 x, .int .i64 y] w fun e w' =>
      ∃ g c, e = .returned (.tuple #[.agg #[.int .i64 W, .int .i64 H, .slice (some ⟨g, 0, none⟩) n1 c], .int .i64 0]) ∧ w.heap.size ≤ g ∧ (∀ k, k < n1 → w'.cell? ⟨g, 0 + k, none⟩ = some (.bool (pasteAt W Wc Hc x y z1 z2 (k % W) (k / W)))) ∧ Below w.heap.size w w' := by
  obtain ⟨⟨a1, a2, a3, a4⟩, z0, z3⟩ := sizeErr_zero he1
  obtain ⟨⟨e1, e2, e3, e4⟩, z4, z5⟩ := sizeErr_zero he2
  have hN1 : n1 ≤ 1048576 := by rw [hn1]; rw [← Int.natCast_mul] at z3; omega
  have hN2 : n2 ≤ 1048576 := by rw [hn2]; rw [← Int.natCast_mul] at z5; omega
  have hp1 : pageErr W H n1 = 0 := by unfold pageErr; rw [if_pos he1, if_pos (by rw [hn1]; simp [Int.natCast_mul])]
  have hp2 : pageErr Wc Hc n2 = 0 := by unfold pageErr; rw [if_pos he2, if_pos (by rw [hn2]; simp [Int.natCast_mul])]
  have hn1' : 1 ≤ n1 := by rw [hn1]; exact Nat.mul_pos (by omega) (by omega)
  have HC1 := Lib.hid hc1
  have HC2 := Lib.hid hc2
  have HN1 := Lib.hid hn1
  have HN2 := Lib.hid hn2
  clear hc1 hc2 hn1 hn2 he1 he2 z0 z3 z4 z5
  go_enter Try.func26, Try.ntmps26
  go_wp2_with ((go_at_call 25; refine (checkBits_any _ _ _ _ _ _).mono ?_; rintro e w' ⟨rfl, rfl⟩))
  obtain ⟨w0, hw0⟩ : ∃ w0, w0 = ((((w.alloc (.cells #[.int .i64 W, .int .i64 H, .slice (some ⟨g1, o1, none⟩) n1 c1] 40)).alloc (.cells #[.int .i64 Wc, .int .i64 Hc, .slice (some ⟨g2, o2, none⟩) n2 c2] 40)).alloc (.cells #[.int .i64 0, .int .i64 0, .slice none 0 0] 40)).alloc (.cells #[.int .i64 W, .int .i64 H, .slice (some ⟨g1, o1, none⟩) n1 c1] 40)).alloc (.cells #[.int .i64 Wc, .int .i64 Hc, .slice (some ⟨g2, o2, none⟩) n2 c2] 40) := ⟨_, rfl⟩
  have B0 : Below w.heap.size w w0 := by rw [hw0]; exact below_alloc (below_alloc (below_alloc (below_alloc (new_below _ _) _) _) _) _
  have q0 : w0.cell? ⟨w.heap.size, 0, none⟩ = some (.int .i64 W) := by rw [hw0]; go_simp
  have q1 : w0.cell? ⟨w.heap.size, 1, none⟩ = some (.int .i64 H) := by rw [hw0]; go_simp
  have q2 : w0.cell? ⟨w.heap.size, 2, none⟩ = some (.slice (some ⟨g1, o1, none⟩) n1 c1) := by rw [hw0]; go_simp
  have q3 : w0.cell? ⟨w.heap.size + 1, 0, none⟩ = some (.int .i64 Wc) := by rw [hw0]; go_simp
  have q4 : w0.cell? ⟨w.heap.size + 1, 1, none⟩ = some (.int .i64 Hc) := by rw [hw0]; go_simp
  have q5 : w0.cell? ⟨w.heap.size + 1, 2, none⟩ = some (.slice (some ⟨g2, o2, none⟩) n2 c2) := by rw [hw0]; go_simp
  have qb : w0.heap[w.heap.size + 1 + 1]? = some (.cells #[.int .i64 0, .int .i64 0, .slice none 0 0] 40 (0, 0)) := by
    rw [hw0, Below.heap_alloc _ _ _ (by simp), Below.heap_alloc _ _ _ (by simp)]
    simpa using heap_alloc_new ((w.alloc (.cells #[.int .i64 W, .int .i64 H, .slice (some ⟨g1, o1, none⟩) n1 c1] 40)).alloc (.cells #[.int .i64 Wc, .int .i64 Hc, .slice (some ⟨g2, o2, none⟩) n2 c2] 40)) (.cells #[.int .i64 0, .int .i64 0, .slice none 0 0] 40)
  rw [← hw0]
  clear hw0
  have LQ := Lib.hid (Array.getElem?_eq_some_iff.1 qb).1
  refine (clone_any g1 o1 n1 c1 z1 w0 hn1' hN1 (fun j hj => cell_later B0 (HC1.out j hj))).mono ?_
  rintro e w1 ⟨v, rfl, hown, hb1⟩
  obtain ⟨gp, cp, rfl⟩ : ∃ g c, v = .slice (some ⟨g, 0, none⟩) n1 c := by
    rcases hown.2 with ⟨_, h0⟩ | ⟨g, c, cur, rfl, _⟩
    · omega
    · exact ⟨g, c, rfl⟩
  have hgp := Lib.hid (hown.lt gp rfl).1
  have B1 := Lib.hid (below_step B0 hb1)
  have Bq := Lib.hid hb1
  have HO := Lib.hid hown
  have k0 := cell_later hb1 q0
  have k1 := cell_later hb1 q1
  have k2 := cell_later hb1 q2
  have k3 := cell_later hb1 q3
  have k4 := cell_later hb1 q4
  have k5 := cell_later hb1 q5
  clear hb1 hown q0 q1 q2 q3 q4 q5
  go_wp2_with fail
  refine (overlap_any W Wc x w1 (by omega) (by omega)).mono ?_
  rintro e wx ⟨fx, tx, rfl, hox, rfl⟩
  go_wp2_with fail
  refine (overlap_any H Hc y w1 (by omega) (by omega)).mono ?_
  rintro e wy ⟨fy, ty, rfl, hoy, rfl⟩
  have hx1 := hox.1
  have hx2 := hox.2.1
  have hy1 := hoy.1
  have hy2 := hoy.2.1
  have OX := Lib.hid hox
  have OY := Lib.hid hoy
  clear hox hoy
  have hst := pasteList_start W H Wc Hc x y z1 z2 fx tx fy ty (by omega) OX.out OY.out
  rw [← HN1.out] at hst
  have HST := Lib.hid hst
  clear hst
  go_wp2_with fail
  go_loopw [17] (fun i wr => ∃ j : Nat, fy ≤ j ∧ j ≤ ty ∧ i = .int .i64 j ∧ wr.ownsRow w0.heap.size 4 1 (.slice (some ⟨gp, 0, none⟩) n1 cp) n1 (pasteList W n1 Wc Hc x y z1 z2 j fx) ∧ Below w0.heap.size w1 wr) (fun i _ => ty - (intOf i).toNat)
  case atStart => exact ⟨fy, Nat.le_refl _, hy1, rfl, by rw [HST.out]; exact HO.out, Below.refl _ _⟩
  case round =>
    obtain ⟨j, hj1, hj2, rfl, hownr, hbr⟩ := hrel
    have lq := LQ.out
    by_cases hltj : j < ty
    · obtain ⟨wo, rfl⟩ : ∃ wo : World, wo = wr := ⟨_, rfl⟩
      go_wp2_with fail
      go_loopw [18] (fun i wr => ∃ i' : Nat, fx ≤ i' ∧ i' ≤ tx ∧ i = .int .i64 i' ∧ wr.ownsRow w0.heap.size 4 1 (.slice (some ⟨gp, 0, none⟩) n1 cp) n1 (pasteList W n1 Wc Hc x y z1 z2 j i') ∧ Below w0.heap.size w1 wr) (fun i _ => tx - (intOf i).toNat)
      case atStart => exact ⟨fx, Nat.le_refl _, hx1, rfl, hownr, hbr⟩
      case round =>
        obtain ⟨i, hi1, hi2, rfl, howni, hbi⟩ := hrel
        clear hownr hbr
        have f0 := (hbi.cell (p := ⟨w.heap.size, 0, none⟩) (by simp; omega)).trans k0
        have f3 := (hbi.cell (p := ⟨w.heap.size + 1, 0, none⟩) (by simp; omega)).trans k3
        have f5 := (hbi.cell (p := ⟨w.heap.size + 1, 2, none⟩) (by simp; omega)).trans k5
        by_cases hlti : i < tx
        · obtain ⟨ia, ib, ic⟩ := OX.out.2.2.1 i hi1 hlti
          obtain ⟨ja, jb, jc⟩ := OY.out.2.2.1 j hj1 hltj
          obtain ⟨a, ha⟩ := Int.eq_ofNat_of_zero_le ib
          obtain ⟨b, hb⟩ := Int.eq_ofNat_of_zero_le jb
          have haW : a < W := by omega
          have hbH : b < H := by omega
          have hfit := row_fits hbH (show a + 1 ≤ W by omega)
          have hfit2 := row_fits ja (show i + 1 ≤ Wc by omega)
          rw [← HN1.out] at hfit
          rw [← HN2.out] at hfit2
          have hcw := HC2.out (j * Wc + i) (by omega)
          have hcl := World.block_lt_of_cell? _ _ hcw
          simp only at hcl
          have hcc : wr.cell? ⟨g2, o2 + (j * Wc + i), none⟩ = some (.bool (z2 (j * Wc + i))) := (hbi.cell (p := ⟨g2, o2 + (j * Wc + i), none⟩) (by have := B0.size; simp; omega)).trans (cell_later B1.out hcw)
          have hstep := pasteList_step W H Wc Hc x y z1 z2 j i a b (by omega) (by omega) (by omega) haW hbH ia ja
          rw [← HN1.out] at hstep
          have ht := howni.cellAt (b * W + a) (by omega)
          rw [List.getElem?_eq_getElem (by rw [howni.1]; omega)] at ht
          have hfz := howni.frozenAt (b * W + a)
          obtain ⟨t, hte⟩ : ∃ t, t = (pasteList W n1 Wc Hc x y z1 z2 j i)[b * W + a]'(by rw [howni.1]; omega) := ⟨_, rfl⟩
          rw [← hte] at ht
          obtain ⟨K, hK⟩ : ∃ K, K = b * W + a := ⟨_, rfl⟩
          rw [← hK] at ht hfz hstep
          have hKn : K < n1 := by omega
          have x0 : (0 : Int) ≤ (j : Int) * (Wc : Int) := Int.mul_nonneg (by omega) (by omega)
          have x1 : (j : Int) * (Wc : Int) + (i : Int) < (n2 : Int) := by rw [← Int.natCast_mul]; omega
          have x2 : (0 : Int) ≤ (b : Int) * (W : Int) := Int.mul_nonneg (by omega) (by omega)
          have x3 : (b : Int) * (W : Int) ≤ 16000000 := by
            have := Nat.mul_le_mul (show b ≤ 4000 by omega) (show W ≤ 4000 by omega)
            rw [← Int.natCast_mul]; omega
          have eb : y + (j : Int) = (b : Int) := by omega
          have eK : (b : Int) * (W : Int) + x + (i : Int) = (K : Int) := by
            have : ((b * W + a : Nat) : Int) = (b : Int) * (W : Int) + (a : Int) := by rw [Int.natCast_add, Int.natCast_mul]
            omega
          have xx : - 4000 ≤ x ∧ x ≤ 4000 := by omega
          have yy : - 4000 ≤ y ∧ y ≤ 4000 := by omega
          obtain ⟨xx0, xx1⟩ := xx
          obtain ⟨yy0, yy1⟩ := yy
          have HS := Lib.hid hstep
          have HOI := Lib.hid howni
          have HBI := Lib.hid hbi
          clear hte hcw hstep howni hbi hfit hfit2 ib jb ha hb hK
          by_cases hz : z2 (j * Wc + i) = true
          · have HZ := Lib.hid hz
            rw [hz] at hcc
            clear hz
            go_wp2_with fail
            go_roundw
            case rel =>
              refine ⟨i + 1, by omega, by omega, by go_num, ?_, HBI.out.setCell hgp.out _⟩
              rw [HS.out, if_pos HZ.out]
              exact (HOI.out.stored K (.bool true)).1
            case measure => simp [intOf]; omega
          · have hz' : z2 (j * Wc + i) = false := by simpa using hz
            have HZ := Lib.hid hz
            rw [hz'] at hcc
            clear hz hz'
            go_wp2_with fail
            go_roundw
            case rel => exact ⟨i + 1, by omega, by omega, by go_num, by rw [HS.out, if_neg HZ.out]; exact HOI.out, HBI.out⟩
            case measure => simp [intOf]; omega
        · have hie := Lib.hid (show i = tx by omega)
          have hrow := pasteList_row W H Wc Hc x y z1 z2 fx tx j (by omega) OX.out
          rw [← HN1.out] at hrow
          have HR := Lib.hid hrow
          clear hrow
          go_wp2_with fail
          go_roundw
          case rel => exact ⟨j + 1, by omega, by omega, by go_num, by rw [← HR.out, ← hie.out]; exact howni, hbi⟩
          case measure => simp [intOf]; omega
    · have hje := Lib.hid (show j = ty by omega)
      have f0 := (hbr.cell (p := ⟨w.heap.size, 0, none⟩) (by simp; omega)).trans k0
      have f1 := (hbr.cell (p := ⟨w.heap.size, 1, none⟩) (by simp; omega)).trans k1
      have hblk : wr.heap[w.heap.size + 1 + 1]? = some (.cells #[.int .i64 0, .int .i64 0, .slice none 0 0] 40 (0, 0)) := (hbr.block _ lq).trans (below_block Bq.out qb)
      obtain ⟨j0, j1, j2, r0, r1, r2⟩ := block3 hblk
      have HBR := Lib.hid hbr
      have HOR := Lib.hid hownr
      clear hbr hownr hblk
      go_wp2_with fail
      refine bodyPost_ret (v := .tuple #[.agg #[.int .i64 W, .int .i64 H, .slice (some ⟨gp, 0, none⟩) n1 cp], .int .i64 0]) (by simp [results, Try.results26, go_sem, j0, j1, j2]) rfl ⟨gp, cp, rfl, ?_, fun k hk => ?_, ?_⟩
      · have := hgp.out; have := B0.size; omega
      · refine cell_far3 (show gp ≠ w.heap.size + 1 + 1 by have := hgp.out; omega) ?_
        rw [Nat.zero_add, HOR.out.cellAt k (by omega), hje.out]
        have he := pasteList_end W H Wc Hc x y z1 z2 fx fy ty (by omega) OY.out k (by rw [← HN1.out]; exact hk)
        simp [pasteList, List.getElem?_range hk, he]
      · exact below_far3 ((B1.out).trans (HBR.out.mono (by have := B0.size; omega))) (by omega)

end Go.Proofs.Ytofcojcfcpfdmaa
namespace Go.Proofs.Ytofcojcfcpfdmaa
open Go.RowKit
set_option linter.unusedSimpArgs false
set_option linter.unusedVariables false

/-- What a halved page is, in memory: nothing with an error; else the means. -/
def HalveIs (a b : Int) (n : Nat) (z : Nat → Int) (B : Nat) (w : World) (i j : Int) (sl : Option Addr) (n' c' : Nat) : Prop :=
  (pageErr a b n ≠ 0 ∧ i = 0 ∧ j = 0 ∧ sl = none ∧ n' = 0 ∧ c' = 0) ∨
  (pageErr a b n = 0 ∧ i = (((a.toNat + 1) / 2 : Nat) : Int) ∧ j = (((b.toNat + 1) / 2 : Nat) : Int) ∧ n' = (a.toNat + 1) / 2 * ((b.toNat + 1) / 2) ∧ ∃ g, B ≤ g ∧ sl = some ⟨g, 0, none⟩ ∧ ∀ k, k < n' → w.cell? ⟨g, 0 + k, none⟩ = some (.int .u8 (mean4 z a.toNat b.toNat (k % ((a.toNat + 1) / 2)) (k / ((a.toNat + 1) / 2)))))

theorem HalveIs.later {a b : Int} {n : Nat} {z : Nat → Int} {B : Nat} {w w' : World} {i j : Int} {sl : Option Addr} {n' c' : Nat} (h : HalveIs a b n z B w i j sl n' c') (hb : Below w.heap.size w w') : HalveIs a b n z B w' i j sl n' c' := by
  rcases h with h | ⟨h1, h2, h3, h4, g, h5, h6, h7⟩
  · exact .inl h
  · exact .inr ⟨h1, h2, h3, h4, g, h5, h6, fun k hk => cell_later hb (h7 k hk)⟩

/-- The error of pasting. -/
def pasteErr (a1 b1 : Int) (n1 : Nat) (a2 b2 : Int) (n2 : Nat) : Int := orI (pageErr a1 b1 n1) (pageErr a2 b2 n2)

/-- What a pasted page is, in memory. -/
def PasteIs (a1 b1 : Int) (n1 : Nat) (a2 b2 : Int) (n2 : Nat) (x y : Int) (z1 z2 : Nat → Bool) (B : Nat) (w : World) (i j : Int) (sl : Option Addr) (n' c' : Nat) : Prop :=
  (pasteErr a1 b1 n1 a2 b2 n2 ≠ 0 ∧ i = 0 ∧ j = 0 ∧ sl = none ∧ n' = 0 ∧ c' = 0) ∨
  (pasteErr a1 b1 n1 a2 b2 n2 = 0 ∧ i = a1 ∧ j = b1 ∧ n' = n1 ∧ ∃ g, B ≤ g ∧ sl = some ⟨g, 0, none⟩ ∧ ∀ k, k < n' → w.cell? ⟨g, 0 + k, none⟩ = some (.bool (pasteAt a1.toNat a2.toNat b2.toNat x y z1 z2 (k % a1.toNat) (k / a1.toNat))))

theorem PasteIs.later {a1 b1 : Int} {n1 : Nat} {a2 b2 : Int} {n2 : Nat} {x y : Int} {z1 z2 : Nat → Bool} {B : Nat} {w w' : World} {i j : Int} {sl : Option Addr} {n' c' : Nat} (h : PasteIs a1 b1 n1 a2 b2 n2 x y z1 z2 B w i j sl n' c') (hb : Below w.heap.size w w') : PasteIs a1 b1 n1 a2 b2 n2 x y z1 z2 B w' i j sl n' c' := by
  rcases h with h | ⟨h1, h2, h3, h4, g, h5, h6, h7⟩
  · exact .inl h
  · exact .inr ⟨h1, h2, h3, h4, g, h5, h6, fun k hk => cell_later hb (h7 k hk)⟩

end Go.Proofs.Ytofcojcfcpfdmaa
namespace Go.Proofs.Ytofcojcfcpfdmaa
open Go.RowKit
set_option linter.unusedSimpArgs false
set_option linter.unusedVariables false

def leanZ (W H : Nat) (z : Nat → Bool) (n : Int) (j : Nat) : Bool := atB W H z ((j % W : Nat) : Int) (((j / W : Nat) : Int) - fallV W n (j % W))
theorem leanS_any (W H g o c : Nat) (n : Int) (z : Nat → Bool) (w : World) (hs : sizeErr W H = 0) (hn : -256 ≤ n ∧ n ≤ 256) (hp : ∀ j, j < W * H → w.cell? ⟨g, o + j, none⟩ = some (.bool (z j))) :
    Calls Try.prog 22 #[.agg #[.int .i64 W, .int .i64 H, .slice (some ⟨g, o, none⟩) (W * H) c], .int .i64 n] w fun e w' =>
      ∃ g' c', e = .returned (.tuple #[.agg #[.int .i64 W, .int .i64 H, .slice (some ⟨g', 0, none⟩) (W * H) c'], .int .i64 0]) ∧ (∀ j, j < W * H → w'.cell? ⟨g', 0 + j, none⟩ = some (.bool (leanZ W H z n j))) ∧ Below w.heap.size w w' := by
  obtain ⟨⟨a1, a2, a3, a4⟩, _, _⟩ := sizeErr_zero hs
  refine (lean_ok W H g o c n z w hs hn hp).mono ?_
  rintro e w' ⟨v, rfl, ho, hb⟩
  obtain ⟨g', c', rfl, _, hz⟩ := owns_pageB ho (Nat.mul_pos (by omega) (by omega))
  exact ⟨g', c', rfl, hz, hb⟩
end Go.Proofs.Ytofcojcfcpfdmaa
namespace Go.Proofs.Ytofcojcfcpfdmaa
open Go.RowKit
set_option linter.unusedSimpArgs false
set_option linter.unusedVariables false

theorem bestUp_range (sc : Int → Int) (k : Nat) : -(k : Int) ≤ (bestUp sc k).1 ∧ (bestUp sc k).1 ≤ k := by
  induction k with
  | zero => exact ⟨by simp [bestUp], by simp [bestUp]⟩
  | succ k ih =>
    have step : ∀ p : Int × Int, ∀ n : Int, (stepV sc p n).1 = n ∨ (stepV sc p n).1 = p.1 := fun p n => by unfold stepV; split <;> simp
    rw [bestUp]
    rcases step (stepV sc (bestUp sc k) ((k + 1 : Nat) : Int)) (-((k + 1 : Nat) : Int)) with h | h <;> rw [h]
    · omega
    · rcases step (bestUp sc k) ((k + 1 : Nat) : Int) with h2 | h2 <;> rw [h2] <;> omega

set_option maxHeartbeats 800000 in
theorem straight_ok (W H g o c most : Nat) (z : Nat → Bool) (w : World) (hs : sizeErr W H = 0) (hm : most ≤ 256) (hi : anyInk z (W * H) = true) (hp : ∀ j, j < W * H → w.cell? ⟨g, o + j, none⟩ = some (.bool (z j))) (hB : IsBools w (some ⟨g, o, none⟩) (W * H) c z) :
    Calls Try.prog 23 #[.agg #[.int .i64 W, .int .i64 H, .slice (some ⟨g, o, none⟩) (W * H) c], .int .i64 most] w fun e w' =>
      ∃ g' c', e = .returned (.tuple #[.agg #[.int .i64 W, .int .i64 H, .slice (some ⟨g', 0, none⟩) (W * H) c'], .int .i64 (bestUp (scoreV (inkQ z W) W H) most).1, .int .i64 0]) ∧
        (∀ j, j < W * H → w'.cell? ⟨g', 0 + j, none⟩ = some (.bool (leanZ W H z (-(bestUp (scoreV (inkQ z W) W H) most).1) j))) ∧ Below w.heap.size w w' := by
  obtain ⟨w1, hw1⟩ : ∃ w1, w1 = (w.alloc (.cells #[.int .i64 W, .int .i64 H, .slice (some ⟨g, o, none⟩) (W * H) c] 40)).alloc (.cells #[.int .i64 0, .int .i64 0, .slice none 0 0] 40) := ⟨_, rfl⟩
  have B1 : Below w.heap.size w w1 := by rw [hw1]; exact below_alloc (new_below _ _) _
  have q1 : w1.heap[w.heap.size]? = some (.cells #[.int .i64 W, .int .i64 H, .slice (some ⟨g, o, none⟩) (W * H) c] 40 (0, 0)) := by
    rw [hw1, Below.heap_alloc _ _ _ (by simp)]; exact heap_alloc_new _ _
  have qb : w1.heap[w.heap.size + 1]? = some (.cells #[.int .i64 0, .int .i64 0, .slice none 0 0] 40 (0, 0)) := by
    rw [hw1]; simpa using heap_alloc_new (w.alloc (.cells #[.int .i64 W, .int .i64 H, .slice (some ⟨g, o, none⟩) (W * H) c] 40)) (.cells #[.int .i64 0, .int .i64 0, .slice none 0 0] 40)
  have HC := Lib.hid (find_ok W H g o c most z w1 hs hm hi (fun j hj => cell_later B1 (hp j hj)) (isBools_later hB B1))
  obtain ⟨F, hF⟩ : ∃ F, F = (bestUp (scoreV (inkQ z W) W H) most).1 := ⟨_, rfl⟩
  have hr := bestUp_range (scoreV (inkQ z W) W H) most
  rw [← hF] at HC hr ⊢
  obtain ⟨r1', r2'⟩ := hr
  have HW := Lib.hid hw1
  have HB1 := Lib.hid B1
  have HQ1 := Lib.hid q1
  have HQB := Lib.hid qb
  have HP := Lib.hid hp
  have HSZ := Lib.hid hs
  have hF2 : -256 ≤ F := by omega
  have hF3 : F ≤ 256 := by omega
  clear hs hw1 B1 q1 qb hF hp hB hi
  go_enter Try.func23, Try.ntmps23
  go_wp2_with fail
  rw [← HW.out]
  refine HC.out.mono ?_
  rintro e w2 ⟨rfl, hb2⟩
  have Q2 := Lib.hid (below_block hb2 HQ1.out)
  have QB2 := Lib.hid (below_block hb2 HQB.out)
  have G2 := Lib.hid (below_step HB1.out hb2)
  clear hb2
  obtain ⟨p0, p1, p2, _, _, _⟩ := block3 Q2.out
  go_wp2_with fail
  refine (leanS_any W H g o c (-F) z w2 HSZ.out (by omega) (fun j hj => cell_later G2.out (HP.out j hj))).mono ?_
  rintro e w3 ⟨g', c', rfl, hz3, hb3⟩
  have QB3 := Lib.hid (below_block hb3 QB2.out)
  have G3 := Lib.hid (below_step G2.out hb3)
  have Z3 := Lib.hid hz3
  have lt3 : w.heap.size + 1 < w3.heap.size := (Array.getElem?_eq_some_iff.1 QB3.out).1
  have HLT := Lib.hid lt3
  clear hb3 hz3 p0 p1 p2 Q2 QB2 lt3
  obtain ⟨j0, j1, j2, r0, r1, r2⟩ := block3 QB3.out
  have HL := Lib.hid (fun j (hj : j < W * H) => show g' < w3.heap.size from by have := World.block_lt_of_cell? _ _ (Z3.out j hj); simpa using this)
  go_upto_region 5 with (fail)
  obtain ⟨w4, hw4⟩ : ∃ w4, w4 = w3.alloc (.cells #[.int .i64 W, .int .i64 H, .slice (some ⟨g', 0, none⟩) (W * H) c'] 40) := ⟨_, rfl⟩
  have B4 : Below w3.heap.size w3 w4 := by rw [hw4]; exact new_below _ _
  obtain ⟨k0, k1, k2, _, _, _⟩ := block3 (w := w4) (b := w3.heap.size) (x := .int .i64 W) (y := .int .i64 H) (z := .slice (some ⟨g', 0, none⟩) (W * H) c') (t := 40) (by rw [hw4]; exact heap_alloc_new _ _)
  have QB4 := Lib.hid (below_block B4 QB3.out)
  have G4 := Lib.hid (below_step G3.out B4)
  have Z4 := Lib.hid (fun j hj => cell_later B4 (Z3.out j hj))
  rw [← hw4]
  clear hw4 B4 j0 j1 j2 r0 r1 r2
  obtain ⟨j0, j1, j2, r0, r1, r2⟩ := block3 QB4.out
  go_wp2_with fail
  refine bodyPost_ret (v := .tuple #[.agg #[.int .i64 W, .int .i64 H, .slice (some ⟨g', 0, none⟩) (W * H) c'], .int .i64 F, .int .i64 0]) (by simp [results, Try.results23, go_sem, j0, j1, j2]) rfl ⟨g', c', rfl, fun j hj => ?_, below_far3 G4.out (by omega)⟩
  refine cell_far3 ?_ (Z4.out j hj)
  have e0 := Z4.out 0 (by omega)
  intro h
  have h' : g' = w.heap.size + 1 := h
  rw [h', Nat.add_zero, (block3 QB4.out).1] at e0
  cases e0

end Go.Proofs.Ytofcojcfcpfdmaa
namespace Go.Proofs.Ytofcojcfcpfdmaa
open Go.RowKit
set_option linter.unusedSimpArgs false
set_option linter.unusedVariables false

theorem fallV_small {W x : Nat} {n : Int} (hW : W ≤ 200) (hn : -64 ≤ n ∧ n ≤ 64) (hx : x < W) : -7 ≤ fallV W n x ∧ fallV W n x ≤ 7 := by
  obtain ⟨d, hd⟩ : ∃ d, d = (x : Int) - (((W - 1) / 2 : Nat) : Int) := ⟨_, rfl⟩
  have h1 : -101 ≤ d ∧ d ≤ 101 := by omega
  have h2 : (n * d).natAbs ≤ 64 * 101 := by rw [Int.natAbs_mul]; exact Nat.mul_le_mul (by omega) (by omega)
  unfold fallV
  rw [← hd]
  generalize n * d = p at h2 ⊢
  unfold shiftV
  split <;> omega

/-- Leaning back undoes leaning, where the ink keeps off the margins. -/
theorem lean_back {W H : Nat} {z : Nat → Bool} {n k : Int} {m : Nat} (hz : ∀ x y, x < W → y < H → (y < m ∨ H < y + m + 1) → z (y * W + x) = false) (hs : ∀ x, x < W → -(m : Int) ≤ fallV W n x ∧ fallV W n x ≤ m)
    (he : ∀ x, x < W → fallV W k x = fallV W n x) (j : Nat) (hj : j < W * H) : leanZ W H (leanZ W H z n) (-k) j = z j := by
  have hW : 0 < W := by
    rcases Nat.eq_zero_or_pos W with h | h
    · subst h; simp at hj
    · exact h
  have hx : j % W < W := Nat.mod_lt _ hW
  have hy : j / W < H := Nat.div_lt_of_lt_mul hj
  have hjj : j / W * W + j % W = j := by rw [Nat.mul_comm]; exact Nat.div_add_mod j W
  obtain ⟨x, hxe⟩ : ∃ x, x = j % W := ⟨_, rfl⟩
  obtain ⟨y, hye⟩ : ∃ y, y = j / W := ⟨_, rfl⟩
  obtain ⟨s1, s2⟩ := hs x (by omega)
  have e1 := he x (by omega)
  unfold leanZ
  rw [← hxe, ← hye, fallV_neg, e1]
  rw [← hxe] at hx
  rw [← hye] at hy
  rw [← hxe, ← hye] at hjj
  obtain ⟨s, hse⟩ : ∃ s, s = fallV W n x := ⟨_, rfl⟩
  rw [← hse] at s1 s2 ⊢
  by_cases h : 0 ≤ (y : Int) - -s ∧ (y : Int) - -s < H
  · obtain ⟨u, hu⟩ : ∃ u : Nat, (u : Int) = (y : Int) - -s := ⟨((y : Int) - -s).toNat, by omega⟩
    rw [← hu, atB_in hx (by omega)]
    show atB W H z (((u * W + x) % W : Nat) : Int) ((((u * W + x) / W : Nat) : Int) - fallV W n ((u * W + x) % W)) = z j
    rw [Nat.add_comm, Nat.add_mul_mod_self_right, Nat.mod_eq_of_lt hx, Nat.add_mul_div_right _ _ hW, Nat.div_eq_of_lt hx, Nat.zero_add, ← hse, show (u : Int) - s = (y : Int) by omega, atB_in hx hy, hjj]
  · have h1 : atB W H (leanZ W H z n) (x : Int) ((y : Int) - -s) = false := by
      unfold atB; rw [if_neg (by omega)]
    have h2 := hz x y hx hy (by omega)
    rw [hjj] at h2
    have h3 : atB W H (fun j => atB W H z ((j % W : Nat) : Int) (((j / W : Nat) : Int) - fallV W n (j % W))) (x : Int) ((y : Int) - -s) = false := h1
    rw [h2]
    exact h3

/-- The rows of a page, with margins of eight. -/
def rowB (L : Nat) (v : Nat → Bool) (i : Int) : Bool := if 8 ≤ i ∧ i < 8 + (L : Int) then v (i - 8).toNat else false
/-- How many full rows there are ahead of a place. -/
def rowP (L : Nat) (v : Nat → Bool) (i : Int) : Nat := sumN (fun k => (v k).toNat) (min L (i - 8).toNat)

theorem sumN_mono (f : Nat → Nat) {a b : Nat} (h : a ≤ b) : sumN f a ≤ sumN f b := by
  induction b with
  | zero => rw [Nat.le_zero.1 h]; exact Nat.le_refl _
  | succ b ih =>
    rcases Nat.lt_or_eq_of_le h with h1 | h1
    · exact Nat.le_trans (ih (by omega)) (by rw [sumN]; omega)
    · rw [h1]; exact Nat.le_refl _

theorem rowP_step (L : Nat) (v : Nat → Bool) (i : Int) : rowP L v (i + 1) = rowP L v i + (rowB L v i).toNat := by
  unfold rowP rowB
  by_cases h : 8 ≤ i ∧ i < 8 + (L : Int)
  · rw [if_pos h, show min L (i + 1 - 8).toNat = min L (i - 8).toNat + 1 by omega, sumN, show min L (i - 8).toNat = (i - 8).toNat by omega]
  · rw [if_neg h, show min L (i + 1 - 8).toNat = min L (i - 8).toNat by omega]
    rfl

theorem rowP_sum (L : Nat) (v : Nat → Bool) (c : Int) (m : Nat) : sumN (fun j => (rowB L v (c + (j : Int))).toNat) m + rowP L v c = rowP L v (c + (m : Int)) := by
  induction m with
  | zero => simp [sumN]
  | succ m ih =>
    have e : c + ((m + 1 : Nat) : Int) = c + (m : Int) + 1 := by omega
    rw [sumN, e, rowP_step, ← ih]
    omega

/-- The number of full rows. -/
def fullN (L : Nat) (v : Nat → Bool) : Nat := sumN (fun k => (v k).toNat) L

theorem rowP_le (L : Nat) (v : Nat → Bool) (c : Int) : rowP L v c ≤ fullN L v := sumN_mono _ (by omega)
theorem row_window_le (L : Nat) (v : Nat → Bool) (c : Int) (m : Nat) : sumN (fun j => (rowB L v (c + (j : Int))).toNat) m ≤ fullN L v := by
  have := rowP_sum L v c m
  have := rowP_le L v (c + (m : Int))
  omega
theorem row_window_all (L : Nat) (v : Nat → Bool) (c : Int) (m : Nat) (h1 : c ≤ 8) (h2 : 8 + (L : Int) ≤ c + (m : Int)) : sumN (fun j => (rowB L v (c + (j : Int))).toNat) m = fullN L v := by
  have h := rowP_sum L v c m
  have e1 : rowP L v c = 0 := by unfold rowP; rw [show min L (c - 8).toNat = 0 by omega]; rfl
  have e2 : rowP L v (c + (m : Int)) = fullN L v := by unfold rowP fullN; rw [show min L (c + (m : Int) - 8).toNat = L by omega]
  omega

theorem sumN_swap (f : Nat → Nat → Nat) (a b : Nat) : sumN (fun j => sumN (fun x => f j x) a) b = sumN (fun x => sumN (fun j => f j x) b) a := by
  induction b with
  | zero =>
    rw [sumN]
    induction a with
    | zero => rfl
    | succ a ih => rw [sumN, ← ih]; rfl
  | succ b ih =>
    rw [sumN, ih]
    clear ih
    induction a with
    | zero => rfl
    | succ a ih => rw [sumN, sumN, sumN, sumN, ← ih]; omega

theorem sumN_le_of {f g : Nat → Nat} {n : Nat} (h : ∀ j, j < n → f j ≤ g j) : sumN f n ≤ sumN g n := by
  induction n with
  | zero => exact Nat.le_refl _
  | succ n ih => rw [sumN, sumN]; have := ih (fun j hj => h j (by omega)); have := h n (by omega); omega
theorem sumN_const (c n : Nat) : sumN (fun _ => c) n = n * c := by
  induction n with
  | zero => simp [sumN]
  | succ n ih => rw [sumN, ih, Nat.succ_mul]

theorem sq_defect (f : Nat → Nat) (M n : Nat) (h : ∀ j, j < n → f j ≤ M) : sqSum f n + sumN (fun j => f j * (M - f j)) n = M * sumN f n := by
  induction n with
  | zero => simp [sqSum, sumN]
  | succ n ih =>
    have h1 := ih (fun j hj => h j (by omega))
    have h2 := h n (by omega)
    rw [sqSum, sumN, sumN, Nat.mul_add, ← h1]
    have e : f n * f n + f n * (M - f n) = M * f n := by rw [← Nat.mul_add, Nat.mul_comm, show f n + (M - f n) = M by omega]
    omega

/-- Sums of squares that are as great as can be. -/
theorem all_or_none {f : Nat → Nat} {M n T : Nat} (h : ∀ j, j < n → f j ≤ M) (hs : sumN f n ≤ T) (hq : M * T ≤ sqSum f n) (j : Nat) (hj : j < n) : f j = 0 ∨ f j = M := by
  have h1 := sq_defect f M n h
  have h2 : M * sumN f n ≤ M * T := Nat.mul_le_mul (Nat.le_refl _) hs
  have h3 : sumN (fun j => f j * (M - f j)) n = 0 := by omega
  have h4 := sumN_ge (f := fun j => f j * (M - f j)) hj
  rw [h3] at h4
  have h5 : f j * (M - f j) = 0 := Nat.le_zero.1 h4
  rcases Nat.mul_eq_zero.1 h5 with h6 | h6
  · exact .inl h6
  · right; have := h j hj; omega

theorem sumN_full {f : Nat → Nat} {n : Nat} (h : ∀ j, j < n → f j ≤ 1) (hs : sumN f n = n) (j : Nat) (hj : j < n) : f j = 1 := by
  induction n with
  | zero => omega
  | succ n ih =>
    have h1 : sumN f n ≤ n := by
      have := sumN_le_of (f := f) (g := fun _ => 1) (n := n) (fun j hj => h j (by omega))
      rw [sumN_const] at this; omega
    have h2 := h n (by omega)
    rw [sumN] at hs
    rcases Nat.lt_or_eq_of_le (Nat.le_of_lt_succ hj) with h3 | h3
    · exact ih (fun j hj => h j (by omega)) (by omega) h3
    · rw [h3]; omega

theorem least_true {v : Nat → Bool} {n : Nat} (h : ∃ a, a < n ∧ v a = true) : ∃ a, a < n ∧ v a = true ∧ ∀ b, b < a → v b = false := by
  induction n with
  | zero => obtain ⟨a, h1, _⟩ := h; omega
  | succ n ih =>
    by_cases hn : ∃ a, a < n ∧ v a = true
    · obtain ⟨a, h1, h2, h3⟩ := ih hn; exact ⟨a, by omega, h2, h3⟩
    · obtain ⟨a, h1, h2⟩ := h
      have : a = n := by
        rcases Nat.lt_or_eq_of_le (Nat.le_of_lt_succ h1) with h3 | h3
        · exact absurd ⟨a, h3, h2⟩ hn
        · exact h3
      subst this
      refine ⟨a, h1, h2, fun b hb => ?_⟩
      cases hv : v b
      · rfl
      · exact absurd ⟨b, hb, hv⟩ hn
theorem most_true {v : Nat → Bool} {n : Nat} (h : ∃ a, a < n ∧ v a = true) : ∃ a, a < n ∧ v a = true ∧ ∀ b, a < b → b < n → v b = false := by
  induction n with
  | zero => obtain ⟨a, h1, _⟩ := h; omega
  | succ n ih =>
    cases hv : v n
    · obtain ⟨a, h1, h2⟩ := h
      have : a < n := by
        rcases Nat.lt_or_eq_of_le (Nat.le_of_lt_succ h1) with h3 | h3
        · exact h3
        · rw [h3, hv] at h2; cases h2
      obtain ⟨a, h1, h2, h3⟩ := ih ⟨a, this, h2⟩
      refine ⟨a, by omega, h2, fun b hb hb2 => ?_⟩
      rcases Nat.lt_or_eq_of_le (Nat.le_of_lt_succ hb2) with h4 | h4
      · exact h3 b hb h4
      · rw [h4]; exact hv
    · exact ⟨n, by omega, hv, fun b h1 h2 => by omega⟩

/-- Rows that are the same when all go by d are not there, unless d is 0. -/
theorem no_period {L H : Nat} {v : Nat → Bool} {d : Int} (hH : H = L + 16) (hd : -16 ≤ d ∧ d ≤ 16) (he : ∃ a, a < L ∧ v a = true)
    (hp : ∀ j : Nat, j < 2 * H → rowB L v (((j : Int) - ((H / 2 : Nat) : Int)) + d) = rowB L v ((j : Int) - ((H / 2 : Nat) : Int))) : d = 0 := by
  have rt : ∀ a : Nat, a < L → v a = true → rowB L v (8 + (a : Int)) = true := by
    intro a h1 h2
    unfold rowB
    rw [if_pos ⟨by omega, by omega⟩, show (8 + (a : Int) - 8).toNat = a by omega]
    exact h2
  have rn : ∀ i : Int, rowB L v i = true → ∃ a : Nat, a < L ∧ v a = true ∧ i = 8 + (a : Int) := by
    intro i hi
    unfold rowB at hi
    split at hi
    · exact ⟨(i - 8).toNat, by omega, hi, by omega⟩
    · cases hi
  rcases Int.lt_trichotomy d 0 with h | h | h
  · exfalso
    obtain ⟨b, hb1, hb2, hb3⟩ := most_true he
    have h1 := hp (8 + b + (-d).toNat + H / 2) (by omega)
    rw [show (((8 + b + (-d).toNat + H / 2 : Nat) : Int) - ((H / 2 : Nat) : Int)) + d = 8 + (b : Int) by omega, rt b hb1 hb2] at h1
    obtain ⟨a, ha1, ha2, ha3⟩ := rn _ h1.symm
    have := hb3 a (by omega) ha1
    rw [ha2] at this; cases this
  · exact h
  · exfalso
    obtain ⟨b, hb1, hb2, hb3⟩ := least_true he
    have h1 := hp (8 + b + H / 2 - d.toNat) (by omega)
    rw [show (((8 + b + H / 2 - d.toNat : Nat) : Int) - ((H / 2 : Nat) : Int)) + d = 8 + (b : Int) by omega, rt b hb1 hb2] at h1
    obtain ⟨a, ha1, ha2, ha3⟩ := rn _ h1.symm
    have := hb3 a (by omega)
    rw [ha2] at this; cases this

theorem profUp_sum (q : Nat → Nat → Bool) (h : Nat) (s : Nat → Int) (c : Int) (j m : Nat) : profUp q h s c j m = sumN (fun x => hitC q h ((j : Int) - (c + s x)) x) m := by
  induction m with
  | zero => rfl
  | succ m ih => rw [profUp, sumN, ih]

/-- What is found is at least as good as any. -/
theorem bestUp_is (sc : Int → Int) (k : Nat) : (bestUp sc k).2 = sc (bestUp sc k).1 := by
  induction k with
  | zero => rfl
  | succ k ih =>
    have st : ∀ (p : Int × Int) (n : Int), p.2 = sc p.1 → (stepV sc p n).2 = sc (stepV sc p n).1 := by
      intro p n h; unfold stepV; split
      · rfl
      · exact h
    exact st _ _ (st _ _ ih)
theorem bestUp_ge (sc : Int → Int) (k : Nat) (n : Int) (h : -(k : Int) ≤ n ∧ n ≤ k) : sc n ≤ (bestUp sc k).2 := by
  induction k with
  | zero => obtain rfl : n = 0 := by omega
            exact Int.le_refl _
  | succ k ih =>
    have up : ∀ (p : Int × Int) (m : Int), p.2 ≤ (stepV sc p m).2 ∧ sc m ≤ (stepV sc p m).2 := by
      intro p m; unfold stepV; split
      · exact ⟨by omega, Int.le_refl _⟩
      · exact ⟨Int.le_refl _, by omega⟩
    rw [bestUp]
    obtain ⟨a1, a2⟩ := up (bestUp sc k) ((k + 1 : Nat) : Int)
    obtain ⟨b1, b2⟩ := up (stepV sc (bestUp sc k) ((k + 1 : Nat) : Int)) (-((k + 1 : Nat) : Int))
    by_cases h1 : n = ((k + 1 : Nat) : Int)
    · rw [h1]; omega
    · by_cases h2 : n = -((k + 1 : Nat) : Int)
      · rw [h2]; exact b2
      · have := ih (by omega); omega

/-- A page of rows that leans is the same as its rows that lean. -/
theorem lean_rows {W H L : Nat} {v z : Nat → Bool} {n : Int} (hH : H = L + 16) (hz : ∀ j, j < W * H → z j = rowB L v ((j / W : Nat) : Int)) (x : Nat) (hx : x < W) (i : Int) : atB W H z (x : Int) i = rowB L v i := by
  unfold atB
  by_cases h : (0 ≤ (x : Int) ∧ (x : Int) ≤ (W : Int) - 1) ∧ (0 ≤ i ∧ i ≤ (H : Int) - 1)
  · rw [if_pos h, Int.toNat_natCast]
    have hfit := row_fits (show i.toNat < H by omega) (show x + 1 ≤ W by omega)
    rw [hz _ (by omega), Nat.add_comm, Nat.add_mul_div_right _ _ (by omega), Nat.div_eq_of_lt hx, Nat.zero_add, Int.toNat_of_nonneg h.2.1]
  · rw [if_neg h]
    unfold rowB
    rw [if_neg (by omega)]

theorem hit_rows {W H L : Nat} {v z : Nat → Bool} {n : Int} (hW : W ≤ 200) (hn : -64 ≤ n ∧ n ≤ 64) (hH : H = L + 16) (hz : ∀ j, j < W * H → z j = rowB L v ((j / W : Nat) : Int)) (x : Nat) (hx : x < W) (i : Int) :
    hitC (inkQ (leanZ W H z n) W) H i x = (rowB L v (i - fallV W n x)).toNat := by
  obtain ⟨s1, s2⟩ := fallV_small hW hn hx
  unfold hitC
  by_cases h : 0 ≤ i ∧ i < (H : Int)
  · rw [if_pos h]
    show (leanZ W H z n (i.toNat * W + x)).toNat = _
    unfold leanZ
    rw [Nat.add_comm (i.toNat * W), Nat.add_mul_mod_self_right, Nat.mod_eq_of_lt hx, Nat.add_mul_div_right _ _ (by omega), Nat.div_eq_of_lt hx, Nat.zero_add, Int.toNat_of_nonneg h.1, lean_rows hH hz x hx (n := n)]
  · rw [if_neg h]
    have : rowB L v (i - fallV W n x) = false := by unfold rowB; rw [if_neg (by omega)]
    rw [this]; rfl

theorem prof_rows {W H L : Nat} {v z : Nat → Bool} {n k : Int} (hW : W ≤ 200) (hn : -64 ≤ n ∧ n ≤ 64) (hH : H = L + 16) (hz : ∀ j, j < W * H → z j = rowB L v ((j / W : Nat) : Int)) (j : Nat) :
    profV (inkQ (leanZ W H z n) W) W H (-k) j = sumN (fun x => (rowB L v ((j : Int) - ((H / 2 : Nat) : Int) + (fallV W k x - fallV W n x))).toNat) W := by
  unfold profV
  rw [profUp_sum]
  refine sumN_congr fun x hx => ?_
  rw [hit_rows hW hn hH hz x hx, fallV_neg]
  congr 2
  omega

set_option maxHeartbeats 800000 in
/-- What is found falls as the page does. -/
theorem found_falls {W H L : Nat} {v z : Nat → Bool} {n : Int} {most : Nat} (hW1 : 1 ≤ W) (hW : W ≤ 200) (hn : -64 ≤ n ∧ n ≤ 64) (hm : -(most : Int) ≤ n ∧ n ≤ most) (hm2 : most ≤ 64) (hH : H = L + 16) (hz : ∀ j, j < W * H → z j = rowB L v ((j / W : Nat) : Int))
    (he : ∃ a, a < L ∧ v a = true) (x : Nat) (hx : x < W) :
    fallV W (bestUp (scoreV (inkQ (leanZ W H z n) W) W H) most).1 x = fallV W n x := by
  obtain ⟨k, hk⟩ : ∃ k, k = (bestUp (scoreV (inkQ (leanZ W H z n) W) W H) most).1 := ⟨_, rfl⟩
  have hr := bestUp_range (scoreV (inkQ (leanZ W H z n) W) W H) most
  have hge := bestUp_ge (scoreV (inkQ (leanZ W H z n) W) W H) most n hm
  rw [bestUp_is, ← hk] at hge
  rw [← hk] at hr ⊢
  clear hk
  have P := fun (k : Int) (j : Nat) => prof_rows (k := k) hW hn hH hz j
  -- the number itself
  have hown : (sqSum (profV (inkQ (leanZ W H z n) W) W H (-n)) (2 * H)) = W * (W * fullN L v) := by
    have hd := sq_defect (profV (inkQ (leanZ W H z n) W) W H (-n)) W (2 * H) (fun j _ => profUp_le _ _ _ _ _ _)
    have e1 : ∀ j, profV (inkQ (leanZ W H z n) W) W H (-n) j = W * (rowB L v (-((H / 2 : Nat) : Int) + (j : Int))).toNat := by
      intro j
      rw [P, sumN_congr (g := fun _ => (rowB L v (-((H / 2 : Nat) : Int) + (j : Int))).toNat), sumN_const]
      intro x hx
      congr 2
      omega
    have e2 : sumN (fun j => profV (inkQ (leanZ W H z n) W) W H (-n) j * (W - profV (inkQ (leanZ W H z n) W) W H (-n) j)) (2 * H) = 0 := by
      rw [sumN_congr (g := fun _ => 0), sumN_const, Nat.mul_zero]
      intro j _
      rw [e1]
      cases rowB L v (-((H / 2 : Nat) : Int) + (j : Int)) <;> simp
    have e3 : sumN (profV (inkQ (leanZ W H z n) W) W H (-n)) (2 * H) = W * fullN L v := by
      rw [← row_window_all L v (-((H / 2 : Nat) : Int)) (2 * H) (by omega) (by omega)]
      rw [sumN_congr (fun j _ => e1 j)]
      generalize 2 * H = m
      induction m with
      | zero => simp [sumN]
      | succ m ih => rw [sumN, sumN, ih, Nat.mul_add]
    rw [e2, e3] at hd
    omega
  have hsc : W * (W * fullN L v) ≤ sqSum (profV (inkQ (leanZ W H z n) W) W H (-k)) (2 * H) := by
    have : (sqSum (profV (inkQ (leanZ W H z n) W) W H (-n)) (2 * H) : Int) ≤ (sqSum (profV (inkQ (leanZ W H z n) W) W H (-k)) (2 * H) : Int) := hge
    rw [← hown]
    exact Int.ofNat_le.1 this
  have htot : sumN (profV (inkQ (leanZ W H z n) W) W H (-k)) (2 * H) ≤ W * fullN L v := by
    rw [sumN_congr (fun j _ => P k j), sumN_swap, ← sumN_const (fullN L v) W]
    refine sumN_le_of fun x _ => ?_
    rw [sumN_congr (g := fun j => (rowB L v ((-((H / 2 : Nat) : Int) + (fallV W k x - fallV W n x)) + (j : Int))).toNat)]
    · exact row_window_le _ _ _ _
    · intro j _
      congr 2
      omega
  have key := fun j hj => all_or_none (f := profV (inkQ (leanZ W H z n) W) W H (-k)) (M := W) (n := 2 * H) (T := W * fullN L v) (fun j _ => profUp_le _ _ _ _ _ _) htot hsc j hj
  -- each column as the middle one
  have hmid : (W - 1) / 2 < W := by omega
  have h0 : ∀ n, fallV W n ((W - 1) / 2) = 0 := by
    intro n; unfold fallV; rw [Int.sub_self, Int.mul_zero]; rfl
  have same : ∀ j : Nat, j < 2 * H → rowB L v (((j : Int) - ((H / 2 : Nat) : Int)) + (fallV W k x - fallV W n x)) = rowB L v ((j : Int) - ((H / 2 : Nat) : Int)) := by
    intro j hj
    have hk2 := key j hj
    rw [P] at hk2
    have hm := sumN_ge (f := fun x => (rowB L v ((j : Int) - ((H / 2 : Nat) : Int) + (fallV W k x - fallV W n x))).toNat) hmid
    have hxx := sumN_ge (f := fun x => (rowB L v ((j : Int) - ((H / 2 : Nat) : Int) + (fallV W k x - fallV W n x))).toNat) hx
    simp only [h0, Int.sub_self, Int.add_zero] at hm
    rcases hk2 with h | h
    · rw [h] at hm hxx
      have a1 : ∀ b : Bool, b.toNat ≤ 0 → b = false := by intro b; cases b <;> simp
      rw [a1 _ hm, a1 _ hxx]
    · have f1 := sumN_full (f := fun x => (rowB L v ((j : Int) - ((H / 2 : Nat) : Int) + (fallV W k x - fallV W n x))).toNat) (fun j _ => toNat_le _) h
      have a1 : ∀ b : Bool, b.toNat = 1 → b = true := by intro b; cases b <;> simp
      have g1 := f1 _ hmid
      simp only [h0, Int.sub_self, Int.add_zero] at g1
      rw [a1 _ g1, a1 _ (f1 x hx)]
  obtain ⟨s1, s2⟩ := fallV_small hW hn hx
  obtain ⟨t1, t2⟩ := fallV_small (n := k) hW (by omega) hx
  have := no_period hH (by omega) he same
  omega

end Go.Proofs.Ytofcojcfcpfdmaa
namespace Go.Proofs.Ytofcojcfcpfdmaa
open Go.RowKit
set_option linter.unusedSimpArgs false
set_option linter.unusedVariables false

theorem landedT_any (w : World) : Calls Try.prog 19 #[] w fun e w' => e = .returned (.bool true) ∧ w = w' := by
  go_enter Try.func19, Try.ntmps19
  go_wp2_with fail
  refine (isName_any _ _ (by decide)).mono ?_
  rintro e w1 ⟨b, rfl, hb, rfl⟩
  have hn : NameP ⟨#[97]⟩ := ⟨⟨by decide, by decide⟩, fun k hk => by
    obtain rfl : k = 0 := by have : (ByteArray.mk #[97]).size = 1 := rfl; omega
    decide⟩
  obtain rfl : b = true := hb.2 hn
  go_wp2_with fail
  go_ret
  exact ⟨rfl, rfl⟩

theorem sameT_true (W H : Int) (g1 o1 g2 o2 n c1 c2 : Nat) (z : Nat → Bool) (w : World) (hn : n ≤ 100000000)
    (h1 : ∀ j, j < n → w.cell? ⟨g1, o1 + j, none⟩ = some (.bool (z j))) (h2 : ∀ j, j < n → w.cell? ⟨g2, o2 + j, none⟩ = some (.bool (z j))) :
    Calls Try.prog 24 #[.agg #[.int .i64 W, .int .i64 H, .slice (some ⟨g1, o1, none⟩) n c1], .agg #[.int .i64 W, .int .i64 H, .slice (some ⟨g2, o2, none⟩) n c2]] w fun e w' => e = .returned (.bool true) ∧ Below w.heap.size w w' := by
  have HE := Lib.hid (equalBool_true g1 o1 g2 o2 n c1 c2 z ((w.alloc (.cells #[.int .i64 W, .int .i64 H, .slice (some ⟨g1, o1, none⟩) n c1] 40)).alloc (.cells #[.int .i64 W, .int .i64 H, .slice (some ⟨g2, o2, none⟩) n c2] 40)) hn
    (fun j hj => cell_later (below_alloc (new_below _ _) _) (h1 j hj)) (fun j hj => cell_later (below_alloc (new_below _ _) _) (h2 j hj)))
  clear h1 h2
  go_enter Try.func24, Try.ntmps24
  go_wp2_with (go_at_call 78; refine HE.out.mono ?_; rintro e w1 ⟨rfl, q, rfl⟩)
  go_ret
  exact ⟨rfl, below_drewN (below_alloc (new_below _ _) _) q⟩

/-- The first place with true, or -1. -/
def FirstB (v : Nat → Bool) (n : Nat) (i : Int) : Prop := (i = -1 ∧ ∀ k, k < n → v k = false) ∨ ∃ a : Nat, i = a ∧ a < n ∧ v a = true

def EndI (P : Int → Prop) (w : World) (e : Ending) (w' : World) : Prop := ∃ i : Int, P i ∧ e = .returned (.int .i64 i) ∧ w = w'

set_option maxHeartbeats 400000 in
theorem indexB_any (g o n c : Nat) (v : Nat → Bool) (w : World) (hn : n ≤ 100000) (hc : ∀ k, k < n → w.cell? ⟨g, o + k, none⟩ = some (.bool (v k))) :
    Calls Try.prog 71 #[.slice (some ⟨g, o, none⟩) n c, .bool true] w (EndI (FirstB v n) w) := by
  have HC := Lib.hid hc
  clear hc
  go_enter Try.func71, Try.ntmps71
  go_wp2_with fail
  go_loop [8] (fun i => ∃ k : Nat, k ≤ n ∧ i = .int .i64 k ∧ Hid (∀ j, j < k → v j = false)) (fun i => n - (intOf i).toNat)
  case atStart => exact ⟨0, Nat.zero_le _, rfl, Lib.hid (fun j hj => by omega)⟩
  case round =>
    obtain ⟨k, hk, rfl, H0⟩ := hrel
    by_cases hlt : k < n
    · have hx := HC.out k hlt
      obtain ⟨b, hb⟩ : ∃ b, b = v k := ⟨_, rfl⟩
      rw [← hb] at hx
      have HV := Lib.hid hb
      have i1 : (k : Int) < (n : Int) := by omega
      have i0 : (0 : Int) ≤ (k : Int) := by omega
      clear hb
      cases b
      · go_wp2_with fail
        go_round
        case rel => exact ⟨k + 1, by omega, by go_num, Lib.hid (fun j hj => by
          by_cases e : j = k
          · rw [e]; exact HV.out.symm
          · exact H0.out j (by omega))⟩
        case measure => simp [intOf]; omega
      · go_wp2_with fail
        go_ret
        exact ⟨k, .inr ⟨k, rfl, hlt, HV.out.symm⟩, rfl, rfl⟩
    · obtain rfl : k = n := by omega
      go_wp2_with fail
      go_ret
      exact ⟨-1, .inl ⟨rfl, H0.out⟩, rfl, rfl⟩

/-- Whether one is true. -/
def someB (v : Nat → Bool) (n : Nat) (b : Bool) : Prop := (b = false ∧ ∀ k, k < n → v k = false) ∨ (b = true ∧ ∃ a, a < n ∧ v a = true)

theorem containsB_any (g o n c : Nat) (v : Nat → Bool) (w : World) (hn : n ≤ 100000) (hc : ∀ k, k < n → w.cell? ⟨g, o + k, none⟩ = some (.bool (v k))) :
    Calls Try.prog 21 #[.slice (some ⟨g, o, none⟩) n c, .bool true] w fun e w' => ∃ b, e = .returned (.bool b) ∧ someB v n b ∧ Below w.heap.size w w' := by
  have HI := Lib.hid (indexB_any g o n c v w hn hc)
  clear hc
  go_enter Try.func21, Try.ntmps21
  go_wp2_with fail
  refine HI.out.mono ?_
  rintro e w1 ⟨i, hi, rfl, rfl⟩
  rcases hi with ⟨rfl, h⟩ | ⟨a, rfl, h1, h2⟩
  · have H := Lib.hid h
    clear h
    go_wp2_with fail
    go_ret
    exact ⟨false, rfl, .inl ⟨rfl, H.out⟩, Below.refl _ _⟩
  · have H := Lib.hid h1
    have H2 := Lib.hid h2
    have i0 : (0 : Int) ≤ (a : Int) := by omega
    clear h1 h2
    go_wp2_with fail
    go_ret
    exact ⟨true, ret_bool (by simp), .inr ⟨rfl, a, H.out, H2.out⟩, Below.refl _ _⟩

end Go.Proofs.Ytofcojcfcpfdmaa
