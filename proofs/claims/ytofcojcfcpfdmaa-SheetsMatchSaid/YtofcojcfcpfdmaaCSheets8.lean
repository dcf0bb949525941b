/-
  What sheets_holds leans on: contracts of the functions that it calls.
-/
import Derived.Test.YtofcojcfcpfdmaaRows
import Derived.WalkKit
import Derived.WalkSpells
import Derived.WalkLawsBesides
import Derived.Lib.Hide
import Derived.Deep.RegionHeld3
import Derived.Shelf.Abstract
import Derived.Deep.AppendLies
import Derived.Deep.DrawnRows
import Derived.Deep.RegionLaw
import Derived.Deep.QuietTactic
import Derived.BigQuiet
import Derived.ProofKit
import Derived.OpenShut
import Derived.ShutString
import Derived.ChangeOld
import Derived.Lib.SmallJoins
import Derived.Deep.Grids
import Derived.Deep.DeepCutAuto
import Derived.Lib.MinMax
import Derived.Deep.CutRange
import Derived.Laws.EntriesVeiled
import Derived.StillTailTactics
import Derived.RegionTactic
import Derived.ChangeAlike
import Derived.BigRegion
import Derived.Deep.OwnRows
import Derived.Test.YtofcojcfcpfdmaaCSheets7
namespace Go.Proofs.Ytofcojcfcpfdmaa
open Go.RowKit
set_option linter.unusedSimpArgs false
set_option linter.unusedVariables false

theorem when_f (w : World) : Calls Try.prog 12 #[.bool false, .int .i64 10] w fun r w' => r = .returned (.int .i64 0) ∧ w = w' := when_any false 10 w
theorem when_t (w : World) : Calls Try.prog 12 #[.bool true, .int .i64 10] w fun r w' => r = .returned (.int .i64 10) ∧ w = w' := when_any true 10 w

/-- The boxes of the arguments. -/
structure Sh4 (a1 b1 : Int) (s1 : Option Addr) (n1 c1 : Nat) (a2 b2 : Int) (s2 : Option Addr) (n2 c2 : Nat) (m n : Int) (w wx : World) : Prop where
  g : wx.heap[w.heap.size]? = some (.cells #[.int .i64 a1, .int .i64 b1, .slice s1 n1 c1] 24 (0, 0))
  b : wx.heap[w.heap.size + 1]? = some (.cells #[.int .i64 a2, .int .i64 b2, .slice s2 n2 c2] 40 (0, 0))
  m : wx.heap[w.heap.size + 1 + 1]? = some (.cells #[.int .i64 m] 3 (0, 0))
  n : wx.heap[w.heap.size + 1 + 1 + 1]? = some (.cells #[.int .i64 n] 3 (0, 0))
  l : Below w.heap.size w wx

section
variable {a1 b1 a2 b2 m n : Int} {s1 s2 : Option Addr} {n1 c1 n2 c2 : Nat} {w wx wy : World}
theorem Sh4.later (h : Sh4 a1 b1 s1 n1 c1 a2 b2 s2 n2 c2 m n w wx) (hb : Below wx.heap.size wx wy) : Sh4 a1 b1 s1 n1 c1 a2 b2 s2 n2 c2 m n w wy :=
  ⟨below_block hb h.g, below_block hb h.b, below_block hb h.m, below_block hb h.n, below_step h.l hb⟩
theorem Sh4.lt (h : Sh4 a1 b1 s1 n1 c1 a2 b2 s2 n2 c2 m n w wx) : w.heap.size + 1 + 1 + 1 < wx.heap.size := (Array.getElem?_eq_some_iff.1 h.n).1
theorem heap_far4 {b k : Nat} {x y z u : Value} (h : k ≠ b) : ((((wx.setCell ⟨b, 0, none⟩ x).setCell ⟨b, 1, none⟩ y).setCell ⟨b, 2, none⟩ z).setCell ⟨b, 3, none⟩ u).heap[k]? = wx.heap[k]? := by
  rw [Below.heap_setCell _ _ _ _ h, Below.heap_setCell _ _ _ _ h, Below.heap_setCell _ _ _ _ h, Below.heap_setCell _ _ _ _ h]
theorem Sh4.far4 {b : Nat} {x y z u : Value} (h : Sh4 a1 b1 s1 n1 c1 a2 b2 s2 n2 c2 m n w wx) (hb : w.heap.size + 1 + 1 + 1 < b) : Sh4 a1 b1 s1 n1 c1 a2 b2 s2 n2 c2 m n w ((((wx.setCell ⟨b, 0, none⟩ x).setCell ⟨b, 1, none⟩ y).setCell ⟨b, 2, none⟩ z).setCell ⟨b, 3, none⟩ u) :=
  ⟨by rw [heap_far4 (by omega)]; exact h.g, by rw [heap_far4 (by omega)]; exact h.b, by rw [heap_far4 (by omega)]; exact h.m, by rw [heap_far4 (by omega)]; exact h.n, below_far4 h.l (by omega)⟩
theorem heap_set1 {w : World} {b o : Nat} {arr : Array Value} {t : TypeId} {fr : Nat × Nat} {v : Value} (h : w.heap[b]? = some (.cells arr t fr)) : (w.setCell ⟨b, o, none⟩ v).heap[b]? = some (.cells (arr.setIfInBounds o v) t fr) := by
  simp [World.setCell, Array.getElem?_modify, h]
theorem set_agg4 {b : Nat} {x y z u x' y' z' u' : Value} {t : TypeId} (h : wx.heap[b]? = some (.cells #[x, y, z, u] t (0, 0))) :
    ((((wx.setCell ⟨b, 0, none⟩ x').setCell ⟨b, 1, none⟩ y').setCell ⟨b, 2, none⟩ z').setCell ⟨b, 3, none⟩ u').heap[b]? = some (.cells #[x', y', z', u'] t (0, 0)) := by
  have e1 := heap_set1 h (o := 0) (v := x')
  have e2 := heap_set1 e1 (o := 1) (v := y')
  have e3 := heap_set1 e2 (o := 2) (v := z')
  have e4 := heap_set1 e3 (o := 3) (v := u')
  simpa using e4
end

theorem sheet_want {E lv p : Int} : orI E (whenI (!(decide (0 ≤ lv ∧ lv ≤ 256)) || !(decide (1 ≤ p ∧ p ≤ 1000))) 3) = shErr E lv p := by
  unfold orI whenI shErr
  by_cases h1 : 0 ≤ lv ∧ lv ≤ 256 <;> by_cases h2 : 1 ≤ p ∧ p ≤ 1000 <;> simp [h1, h2]

theorem sheet_same {q : Nat → Bool} {p W H t b l r : Nat} {X Y bw bh : Int} {is : Bool} (h1 : WithinIs (fun y => inkB q W 0 y W 1) (grd (p * W)) H t b) (h2 : WithinIs (fun x => inkB q W x 0 1 H) (grd (p * H)) W l r) (h : SheetIs q p W H X Y bw bh is) :
    ((t = b ∨ l = r) → is = false ∧ X = 0 ∧ Y = 0 ∧ bw = 0 ∧ bh = 0) ∧ (¬ (t = b ∨ l = r) → is = true ∧ X = l ∧ Y = t ∧ bw = (r : Int) - l ∧ bh = (b : Int) - t) := by
  obtain ⟨t', b', l', r', k1, k2, h3⟩ := h
  have e1 := within_empty h1 k1
  have e2 := within_empty h2 k2
  constructor
  · intro h
    rcases h3 with ⟨a, _, e⟩ | ⟨_, a, _⟩
    · exact ⟨a, e⟩
    · exact absurd (by rcases h with h | h; exact .inl (e1.1 h); exact .inr (e2.1 h)) a
  · intro h
    rcases h3 with ⟨_, a, _⟩ | ⟨a, _, e3, e4, e5, e6⟩
    · exact absurd (by rcases a with a | a; exact .inl (e1.2 a); exact .inr (e2.2 a)) h
    · have l1 : t < b := by have := h1.1.1; have : t ≠ b := fun e => h (.inl e); omega
      have l2 : l < r := by have := h2.1.1; have : l ≠ r := fun e => h (.inr e); omega
      obtain ⟨rfl, rfl⟩ := within_uniq h1 k1 l1
      obtain ⟨rfl, rfl⟩ := within_uniq h2 k2 l2
      exact ⟨a, e3, e4, e5, e6⟩

set_option maxHeartbeats 800000 in
set_option maxRecDepth 100000 in
theorem sheets1_any (W H g o c m n p q X Y pb mb nb : Nat) (z : Nat → Bool) (w : World) (hs : sizeErr W H = 0) (hmn : sizeErr m n = 0) (hi : anyInk z (W * H) = true) (hb : BoxIs z W H X Y p q true)
    (h0 : w.cell? ⟨pb, 0, none⟩ = some (.int .i64 W)) (h1 : w.cell? ⟨pb, 1, none⟩ = some (.int .i64 H)) (h2 : w.cell? ⟨pb, 2, none⟩ = some (.slice (some ⟨g, o, none⟩) (W * H) c)) (h3 : w.cell? ⟨mb, 0, none⟩ = some (.int .i64 m)) (h4 : w.cell? ⟨nb, 0, none⟩ = some (.int .i64 n))
    (hp : ∀ j, j < W * H → w.cell? ⟨g, o + j, none⟩ = some (.bool (z j))) :
    Calls Try.prog 50 #[.pointer (some ⟨pb, 0, none⟩), .pointer (some ⟨mb, 0, none⟩), .pointer (some ⟨nb, 0, none⟩)] w fun e w' => ∃ v, e = .returned v ∧ PageB w' v m n (m * n) (cenZ m n p q X Y W z) ∧ Below w.heap.size w w' := by
  obtain ⟨w1, hw1⟩ : ∃ w1, w1 = w.alloc (.cells #[.int .i64 0, .int .i64 0, .slice none 0 0] 40) := ⟨_, rfl⟩
  have B1 : Below w.heap.size w w1 := by rw [hw1]; exact new_below _ _
  have qb : w1.heap[w.heap.size]? = some (.cells #[.int .i64 0, .int .i64 0, .slice none 0 0] 40 (0, 0)) := by rw [hw1]; exact heap_alloc_new _ _
  have k0 := cell_later B1 h0
  have k1 := cell_later B1 h1
  have k2 := cell_later B1 h2
  have k3 := cell_later B1 h3
  have k4 := cell_later B1 h4
  have HC := Lib.hid (centreR_ok W H g o c m n z w1 hs hmn hi (fun j hj => cell_later B1 (hp j hj)))
  have HB := Lib.hid hb
  have hsz : w.heap.size < w1.heap.size := by rw [hw1]; simp
  clear hs hmn hi hb hp h0 h1 h2 h3 h4
  go_enter Try.func50, Try.ntmps50
  go_upto_region 1 with (fail)
  rw [← hw1]
  clear hw1
  go_wp2_with fail
  refine HC.out.mono ?_
  rintro e w2 ⟨X', Y', p', q', g', c', hb', rfl, hz, hgl, hb2⟩
  obtain ⟨e1, e2, e3, e4, _⟩ := box_uniq HB.out hb'
  obtain rfl : X = X' := by omega
  obtain rfl : Y = Y' := by omega
  obtain rfl : p = p' := by omega
  obtain rfl : q = q' := by omega
  obtain ⟨j0, j1, j2, r0, r1, r2⟩ := block3 (below_block hb2 qb)
  have G := Lib.hid (below_step B1 hb2)
  have HZ := Lib.hid hz
  clear hb2 hz k0 k1 k2 k3 k4 qb HC
  have HG := Lib.hid (show g' ≠ w.heap.size by omega)
  clear hgl hsz
  go_wp2_with fail
  refine bodyPost_ret (v := .agg #[.int .i64 m, .int .i64 n, .slice (some ⟨g', 0, none⟩) (m * n) c']) (by simp [results, Try.results50, go_sem, j0, j1, j2]) rfl ⟨_, rfl, ⟨g', 0, c', rfl, fun j hj => cell_far3 HG.out (HZ.out j hj)⟩, below_far3 G.out (Nat.le_refl _)⟩

set_option maxHeartbeats 16000000 in
set_option maxRecDepth 100000 in
theorem sheets_any (a1 b1 : Int) (s1 : Option Addr) (n1 c1 : Nat) (zs : List Int) (a2 b2 : Int) (s2 : Option Addr) (n2 c2 : Nat) (z : Nat → Bool) (lv p m n : Int) (w : World) (hs1 : IsBytes w s1 n1 c1 zs) (hs2 : IsBools w s2 n2 c2 z) :
    Calls Try.prog 6 #[.agg #[.int .i64 a1, .int .i64 b1, .slice s1 n1 c1], .agg #[.int .i64 a2, .int .i64 b2, .slice s2 n2 c2], .int .i64 lv, .int .i64 p, .int .i64 m, .int .i64 n] w fun e w' => e = .returned (.bool true) ∧ Below w.heap.size w w' := by
  have hmf : ∀ (fn : Fn) (first cap : Array Value) (w : World), (Instr.makeFunc fn first cap).run Try.prog w = .ok (.func fn first cap) w := fun _ _ _ _ => rfl
  obtain ⟨w0, hw0⟩ : ∃ w0, w0 = (((w.alloc (.cells #[.int .i64 a1, .int .i64 b1, .slice s1 n1 c1] 24)).alloc (.cells #[.int .i64 a2, .int .i64 b2, .slice s2 n2 c2] 40)).alloc (.cells #[.int .i64 m] 3)).alloc (.cells #[.int .i64 n] 3) := ⟨_, rfl⟩
  have T0 : Sh4 a1 b1 s1 n1 c1 a2 b2 s2 n2 c2 m n w w0 := by
    rw [hw0]
    refine ⟨?_, ?_, ?_, ?_, below_alloc (below_alloc (below_alloc (new_below _ _) _) _) _⟩
    · rw [Below.heap_alloc _ _ _ (by simp; omega), Below.heap_alloc _ _ _ (by simp; omega), Below.heap_alloc _ _ _ (by simp)]; exact heap_alloc_new _ _
    · rw [Below.heap_alloc _ _ _ (by simp), Below.heap_alloc _ _ _ (by simp)]; simpa using heap_alloc_new (w.alloc (.cells #[.int .i64 a1, .int .i64 b1, .slice s1 n1 c1] 24)) (.cells #[.int .i64 a2, .int .i64 b2, .slice s2 n2 c2] 40)
    · rw [Below.heap_alloc _ _ _ (by simp)]; simpa using heap_alloc_new ((w.alloc (.cells #[.int .i64 a1, .int .i64 b1, .slice s1 n1 c1] 24)).alloc (.cells #[.int .i64 a2, .int .i64 b2, .slice s2 n2 c2] 40)) (.cells #[.int .i64 m] 3)
    · simpa using heap_alloc_new (((w.alloc (.cells #[.int .i64 a1, .int .i64 b1, .slice s1 n1 c1] 24)).alloc (.cells #[.int .i64 a2, .int .i64 b2, .slice s2 n2 c2] 40)).alloc (.cells #[.int .i64 m] 3)) (.cells #[.int .i64 n] 3)
  have HB := Lib.hid hs2
  have HY := Lib.hid hs1
  clear hs1 hs2
  by_cases hQ : shErr (pageErr a1 b1 n1) lv p = 0
  · have hE1 : pageErr a1 b1 n1 = 0 := by
      unfold shErr at hQ; by_cases h : pageErr a1 b1 n1 = 0
      · exact h
      · rw [if_neg h] at hQ; exact absurd hQ h
    have hlp : (0 ≤ lv ∧ lv ≤ 256) ∧ (1 ≤ p ∧ p ≤ 1000) := by
      unfold shErr at hQ; rw [if_pos hE1] at hQ
      by_cases h : (0 ≤ lv ∧ lv ≤ 256) ∧ (1 ≤ p ∧ p ≤ 1000)
      · exact h
      · rw [if_neg h] at hQ; simp at hQ
    have HQV := Lib.hid hQ
    obtain ⟨hl1, hp0⟩ := hlp
    obtain ⟨p1, rfl⟩ := Int.eq_ofNat_of_zero_le (show 0 ≤ p by omega)
    have hp1 : 1 ≤ p1 ∧ p1 ≤ 1000 := by omega
    obtain ⟨W1, H1, rfl, rfl, rfl, hW11, hW12, hH11, hH12, hN1, he1⟩ := page_nat hE1
    obtain ⟨g1, o1, rfl, hc1, hzb⟩ := isBytes_cells HY.out (Nat.mul_pos hW11 hH11)
    have bW1 : 1 ≤ W1 ∧ W1 ≤ 4000 := ⟨hW11, hW12⟩
    have bH1 : 1 ≤ H1 ∧ H1 ≤ 4000 := ⟨hH11, hH12⟩
    have HYC := Lib.hid hc1
    have HZB := Lib.hid hzb
    have HE1 := Lib.hid he1
    have HN1 := Lib.hid hN1
    clear hQ hE1 hp0 hW11 hW12 hH11 hH12 hc1 hzb he1 hN1
    go_enter Try.func6, Try.ntmps6
    go_upto_region 1 with (fail)
    rw [← hw0]
    clear hw0
    obtain ⟨k0, k1, k2, _, _, _⟩ := block3 T0.g
    go_wp2_with fail
    refine (sheet_ok W1 H1 g1 o1 c1 p1 lv (fun j => zs.getD j 0) w0 HE1.out hl1 hp1 HZB.out (fun j hj => cell_later T0.l (HYC.out j hj))).mono ?_
    rintro e wa ⟨t, bt, l, r, rfl, hwr, hwc, hba⟩
    have HWR := Lib.hid hwr
    have HWC := Lib.hid hwc
    clear hwr hwc
    by_cases hsv : t = bt ∨ l = r
    · have hV : sheetV t bt l r = .tuple #[.agg #[.int .i64 0, .int .i64 0, .int .i64 0, .int .i64 0], .int .i64 10] := by unfold sheetV; rw [if_pos hsv]
      rw [hV]
      have HSV := Lib.hid hsv
      clear hV hsv
      have TA := Lib.hid (T0.later hba)
      clear hba k0 k1 k2 T0
      go_upto_region 2 with (fail)
      obtain ⟨wb, hwb⟩ : ∃ wb, wb = wa.alloc (.cells #[.int .i64 0, .int .i64 0, .int .i64 0, .int .i64 0] 65) := ⟨_, rfl⟩
      have hbwb : Below wa.heap.size wa wb := by rw [hwb]; exact new_below _ _
      have xwb : wb.heap[wa.heap.size]? = some (.cells #[.int .i64 0, .int .i64 0, .int .i64 0, .int .i64 0] 65 (0, 0)) := by rw [hwb]; exact heap_alloc_new _ _
      rw [← hwb]
      clear hwb
      have TB := Lib.hid (TA.out.later hbwb)
      have OB := Lib.hid xwb
      clear hbwb xwb TA
      go_cut [15] from 30 to 42 (fun tv wx => tv = .int .i64 0 ∧ Hid (Sh4 W1 H1 (some ⟨g1, o1, none⟩) (W1 * H1) c1 a2 b2 s2 n2 c2 m n w wx ∧ wx.heap[wa.heap.size]? = some (.cells #[.int .i64 0, .int .i64 0, .int .i64 0, .int .i64 0] 65 (0, 0))))
      case first =>
        obtain ⟨k0, k1, k2, _, _, _⟩ := block3 TB.out.g
        by_cases hl : 0 ≤ lv ∧ lv ≤ 256
        · by_cases hp : (1 : Int) ≤ p1 ∧ (p1 : Int) ≤ 1000
          · have hv : orI (pageErr W1 H1 (W1 * H1)) (whenI false 3) = 0 := by rw [← HQV.out, ← sheet_want, decide_eq_true hl, decide_eq_true hp]; rfl
            have HV := Lib.hid hv
            have HL9 := Lib.hid hl
            have HP9 := Lib.hid hp
            clear hv hl hp
            go_wp2_with (first | (go_at_call 42; ((with_reducible refine (grayError_any W1 H1 (some ⟨g1, o1, none⟩) (W1 * H1) c1 _).mono ?_); rintro e wg ⟨rfl, hbg⟩)) | (go_at_call 43; ((with_reducible refine (in_yes lv 0 256 _ HL9.out).mono ?_); rintro e w' ⟨rfl, rfl⟩)) | (go_at_call 43; ((with_reducible refine (in_yes (p1 : Int) 1 1000 _ HP9.out).mono ?_); rintro e w' ⟨rfl, rfl⟩)) | (go_at_call 12; refine (when_any _ _ _).mono ?_; rintro e w' ⟨rfl, rfl⟩) | (go_at_call 11; refine (first2_new _ _ _).mono ?_; rintro e w' ⟨rfl, rfl⟩))
            go_meet
            case rel => exact ⟨by rw [HV.out], Lib.hid ⟨TB.out.later (below_alloc hbg _), below_block (below_alloc hbg _) OB.out⟩⟩
          · have hv : orI (pageErr W1 H1 (W1 * H1)) (whenI true 3) = 0 := by rw [← HQV.out, ← sheet_want, decide_eq_true hl, decide_eq_false hp]; rfl
            have HV := Lib.hid hv
            have HL9 := Lib.hid hl
            have HP9 := Lib.hid hp
            clear hv hl hp
            go_wp2_with (first | (go_at_call 42; ((with_reducible refine (grayError_any W1 H1 (some ⟨g1, o1, none⟩) (W1 * H1) c1 _).mono ?_); rintro e wg ⟨rfl, hbg⟩)) | (go_at_call 43; ((with_reducible refine (in_yes lv 0 256 _ HL9.out).mono ?_); rintro e w' ⟨rfl, rfl⟩)) | (go_at_call 43; ((with_reducible refine (in_no (p1 : Int) 1 1000 _ HP9.out).mono ?_); rintro e w' ⟨rfl, rfl⟩)) | (go_at_call 12; refine (when_any _ _ _).mono ?_; rintro e w' ⟨rfl, rfl⟩) | (go_at_call 11; refine (first2_new _ _ _).mono ?_; rintro e w' ⟨rfl, rfl⟩))
            go_meet
            case rel => exact ⟨by rw [HV.out], Lib.hid ⟨TB.out.later (below_alloc hbg _), below_block (below_alloc hbg _) OB.out⟩⟩
        · have hv : orI (pageErr W1 H1 (W1 * H1)) (whenI true 3) = 0 := by rw [← HQV.out, ← sheet_want, decide_eq_false hl]; rfl
          have HV := Lib.hid hv
          have HL9 := Lib.hid hl
          clear hv hl
          go_wp2_with (first | (go_at_call 42; ((with_reducible refine (grayError_any W1 H1 (some ⟨g1, o1, none⟩) (W1 * H1) c1 _).mono ?_); rintro e wg ⟨rfl, hbg⟩)) | (go_at_call 43; ((with_reducible refine (in_no lv 0 256 _ HL9.out).mono ?_); rintro e w' ⟨rfl, rfl⟩)) | (go_at_call 12; refine (when_any _ _ _).mono ?_; rintro e w' ⟨rfl, rfl⟩) | (go_at_call 11; refine (first2_new _ _ _).mono ?_; rintro e w' ⟨rfl, rfl⟩))
          go_meet
          case rel => exact ⟨by rw [HV.out], Lib.hid ⟨TB.out.later (below_alloc hbg _), below_block (below_alloc hbg _) OB.out⟩⟩
      case rest =>
        obtain ⟨rfl, HT⟩ := hcut
        have TC := Lib.hid HT.out.1
        have OC := Lib.hid HT.out.2
        clear HT TB OB
        go_upto_region 4 with (fail)
        obtain ⟨wd, hwd⟩ : ∃ wd, wd = wc.alloc (.cells #[.int .i64 0, .int .i64 0, .int .i64 0, .int .i64 0] 65) := ⟨_, rfl⟩
        have hbwd : Below wc.heap.size wc wd := by rw [hwd]; exact new_below _ _
        have xwd : wd.heap[wc.heap.size]? = some (.cells #[.int .i64 0, .int .i64 0, .int .i64 0, .int .i64 0] 65 (0, 0)) := by rw [hwd]; exact heap_alloc_new _ _
        rw [← hwd]
        clear hwd
        have TD := Lib.hid (TC.out.later hbwd)
        have OD := Lib.hid (below_block hbwd OC.out)
        have XD := Lib.hid xwd
        have hlo := (Array.getElem?_eq_some_iff.1 OC.out).1
        have lx := TC.out.lt
        have LX := Lib.hid lx
        clear hbwd xwd TC OC
        obtain ⟨k0, k1, k2, _, _, _⟩ := block3 TD.out.g
        go_wp2_with fail
        refine (sheetOf_ok W1 H1 (W1 * H1) g1 o1 c1 p1 lv (fun j => zs.getD j 0) wd bW1 bH1 rfl HN1.out hp1 hl1 HZB.out (fun j hj => cell_later TD.out.l (HYC.out j hj))).mono ?_
        rintro e wz ⟨X', Y', bw', bh', is, rfl, hsi, hbz⟩
        have hsm := sheet_same HWR.out HWC.out hsi
        obtain ⟨rfl, rfl, rfl, rfl, rfl⟩ := hsm.1 HSV.out
        have TZ := TD.out.later hbz
        have OZ := below_block hbz OD.out
        have XZ := below_block hbz XD.out
        obtain ⟨⟨j0, j1, j2, j3⟩, f0, f1, f2, f3⟩ := block4 XZ
        clear hsm hsi hbz TD OD XD k0 k1 k2
        go_upto_region 7 with (fail)
        obtain ⟨wy, hwy⟩ : ∃ wy, wy = (((wz.setCell ⟨wc.heap.size, 0, none⟩ (.int .i64 0)).setCell ⟨wc.heap.size, 1, none⟩ (.int .i64 0)).setCell ⟨wc.heap.size, 2, none⟩ (.int .i64 0)).setCell ⟨wc.heap.size, 3, none⟩ (.int .i64 0) := ⟨_, rfl⟩
        have TY := Lib.hid (show Sh4 W1 H1 (some ⟨g1, o1, none⟩) (W1 * H1) c1 a2 b2 s2 n2 c2 m n w wy by rw [hwy]; exact TZ.far4 LX.out)
        have OY := Lib.hid ((show wy.heap[wa.heap.size]? = wz.heap[wa.heap.size]? by rw [hwy, heap_far4 (by omega)]).trans OZ)
        have XY := Lib.hid (show wy.heap[wc.heap.size]? = some (.cells #[.int .i64 0, .int .i64 0, .int .i64 0, .int .i64 0] 65 (0, 0)) by rw [hwy]; exact set_agg4 XZ)
        rw [← hwy]
        clear hwy TZ OZ XZ j0 j1 j2 j3 f0 f1 f2 f3
        go_wp2_with (first | (go_at_call 12; refine (when_f _).mono ?_; rintro e w' ⟨rfl, rfl⟩) | (go_at_call 12; refine (when_t _).mono ?_; rintro e w' ⟨rfl, rfl⟩))
        refine (skews_any wy).mono ?_
        rintro e we ⟨rfl, hbe⟩
        have TE := Lib.hid (TY.out.later hbe)
        have XE := Lib.hid (show ∃ x y u v, we.heap[wc.heap.size]? = some (.cells #[.int .i64 x, .int .i64 y, .int .i64 u, .int .i64 v] 65 (0, 0)) from ⟨_, _, _, _, below_block hbe XY.out⟩)
        have OE := Lib.hid (below_block hbe OY.out)
        obtain ⟨⟨o0, o1, o2, o3⟩, _, _, _, _⟩ := block4 OE.out
        obtain ⟨⟨j0, j1, j2, j3⟩, _, _, _, _⟩ := block4 (below_block hbe XY.out)
        clear hbe TY XY OY
        go_upto_region 10 with (fail)
        obtain ⟨k0, k1, k2, _, _, _⟩ := block3 TE.out.b
        clear o0 o1 o2 o3 OE
        by_cases hE2 : pageErr a2 b2 n2 = 0
        · obtain ⟨W2, H2, rfl, rfl, rfl, hW21, hW22, hH21, hH22, hN2, he2⟩ := page_nat hE2
          obtain ⟨g2, o2, rfl, hc2⟩ := isBools_cells HB.out (Nat.mul_pos hW21 hH21)
          have bW2 : 1 ≤ W2 ∧ W2 ≤ 4000 := ⟨hW21, hW22⟩
          have bH2 : 1 ≤ H2 ∧ H2 ≤ 4000 := ⟨hH21, hH22⟩
          have HC2 := Lib.hid hc2
          have HS2 := Lib.hid he2
          have HE2 := Lib.hid hE2
          have HN2 := Lib.hid hN2
          have t6 : (pageErr W2 H2 (W2 * H2) == 0) = true := by simpa using hE2
          clear hc2 he2 hE2 hN2 hW21 hW22 hH21 hH22
          cases hi : anyInk z (W2 * H2)
          · have hbn : bndErr (pageErr W2 H2 (W2 * H2)) (anyInk z (W2 * H2)) = 10 := by rw [HE2.out, hi]; rfl
            have hce : cenErr (pageErr W2 H2 (W2 * H2)) (sizeErr m n) (anyInk z (W2 * H2)) ≠ 0 := by
              unfold cenErr
              rw [if_pos HE2.out, hi]
              by_cases h : sizeErr m n = 0
              · rw [if_pos h]; decide
              · rw [if_neg h]; exact h
            have HCE := Lib.hid hce
            have HW3 := Lib.hid (show orI (pageErr W2 H2 (W2 * H2)) (orI (sizeErr m n) 10) = cenErr (pageErr W2 H2 (W2 * H2)) (sizeErr m n) (anyInk z (W2 * H2)) by rw [HE2.out, hi]; unfold orI cenErr; simp)
            have HI := Lib.hid hi
            have HM := Lib.hid (margins_bad W2 H2 (some ⟨g2, o2, none⟩) (W2 * H2) c2 z we (isBools_later HB.out TE.out.l) (by rw [hbn]; decide))
            rw [hbn] at HM
            clear hbn hce hi
            go_wp2_with fail
            refine HM.out.mono ?_
            rintro e wf ⟨rfl, hbf⟩
            have hbf' := hbf
            have TF := TE.out.later hbf
            clear hbf
            go_upto_region 11 with (fail)
            obtain ⟨wg, hwg⟩ : ∃ wg, wg = wf.alloc (.cells #[.int .i64 0, .int .i64 0, .int .i64 0, .int .i64 0] 73) := ⟨_, rfl⟩
            have hbwg : Below wf.heap.size wf wg := by rw [hwg]; exact new_below _ _
            have xwg : wg.heap[wf.heap.size]? = some (.cells #[.int .i64 0, .int .i64 0, .int .i64 0, .int .i64 0] 73 (0, 0)) := by rw [hwg]; exact heap_alloc_new _ _
            rw [← hwg]
            clear hwg
            have TG := TF.later hbwg
            have MG := xwg
            obtain ⟨vx, vy, vu, vv, xe⟩ := XE.out
            have XG := below_block hbwg (below_block hbf' xe)
            have MGX := (Array.getElem?_eq_some_iff.1 (below_block hbf' xe)).1
            clear hbwg xwg TF k0 k1 k2 hbf' xe XE
            obtain ⟨k0, k1, k2, _, _, _⟩ := block3 TG.b
            go_wp2_with fail
            refine (bitsError_any W2 H2 (some ⟨g2, o2, none⟩) (W2 * H2) c2 wg).mono ?_
            rintro e wh ⟨rfl, hbh⟩
            have TH := TG.later hbh
            have MH := below_block hbh MG
            have XH := below_block hbh XG
            clear hbh TG MG k0 k1 k2 XG
            obtain ⟨k0, k1, k2, _, _, _⟩ := block3 TH.b
            go_wp2_with fail
            refine (boundsOf_any W2 H2 g2 o2 c2 z wh bW2 bH2 (fun j hj => cell_later TH.l (HC2.out j hj))).mono ?_
            rintro e wi ⟨BX, BY, BW, BH, bq, rfl, hbox, hbi⟩
            have TI := TH.later hbi
            have MI := below_block hbi MH
            have XI := below_block hbi XH
            obtain ⟨⟨j0, j1, j2, j3⟩, f0, f1, f2, f3⟩ := block4 XI
            clear hbi TH MH XH k0 k1 k2
            have hq := box_any bW2.1 hbox
            rw [HI.out] at hq
            subst hq
            obtain ⟨rfl, rfl, rfl, rfl⟩ : BX = 0 ∧ BY = 0 ∧ BW = 0 ∧ BH = 0 := by
              rcases hbox with ⟨_, e1, e2, e3, e4, _⟩ | ⟨h, _⟩
              · exact ⟨e1, e2, e3, e4⟩
              · cases h
            go_upto_region 15 with (fail)
            obtain ⟨wj, hwj⟩ : ∃ wj, wj = (((wi.setCell ⟨wc.heap.size, 0, none⟩ (.int .i64 0)).setCell ⟨wc.heap.size, 1, none⟩ (.int .i64 0)).setCell ⟨wc.heap.size, 2, none⟩ (.int .i64 0)).setCell ⟨wc.heap.size, 3, none⟩ (.int .i64 0) := ⟨_, rfl⟩
            have TJ : Sh4 W1 H1 (some ⟨g1, o1, none⟩) (W1 * H1) c1 W2 H2 (some ⟨g2, o2, none⟩) (W2 * H2) c2 m n w wj := by rw [hwj]; exact TI.far4 LX.out
            have MJ := (show wj.heap[wf.heap.size]? = wi.heap[wf.heap.size]? by rw [hwj, heap_far4 (by omega)]).trans MI
            have XJ : wj.heap[wc.heap.size]? = some (.cells #[.int .i64 0, .int .i64 0, .int .i64 0, .int .i64 0] 65 (0, 0)) := by rw [hwj]; exact set_agg4 XI
            rw [← hwj]
            clear hwj TI MI XI j0 j1 j2 j3 f0 f1 f2 f3
            go_upto_region 17 with (first | (go_at_call 12; refine (when_t _).mono ?_; rintro e w' ⟨rfl, rfl⟩))
            obtain ⟨wm, hwm⟩ : ∃ wm, wm = wj.alloc (.cells #[.int .i64 0, .int .i64 0, .int .i64 0, .int .i64 0] 73) := ⟨_, rfl⟩
            have hbwm : Below wj.heap.size wj wm := by rw [hwm]; exact new_below _ _
            have xwm : wm.heap[wj.heap.size]? = some (.cells #[.int .i64 0, .int .i64 0, .int .i64 0, .int .i64 0] 73 (0, 0)) := by rw [hwm]; exact heap_alloc_new _ _
            rw [← hwm]
            clear hwm
            have TM := Lib.hid (TJ.later hbwm)
            obtain ⟨⟨o0, o1', o2', o3⟩, _, _, _, _⟩ := block4 (below_block hbwm MJ)
            obtain ⟨⟨j0, j1, j2, j3⟩, _, _, _, _⟩ := block4 xwm
            obtain ⟨k0, k1, k2, _, _, _⟩ := block3 TM.out.b
            obtain ⟨m0, _⟩ := block1 TM.out.m
            obtain ⟨u0, _⟩ := block1 TM.out.n
            clear hbwm xwm TJ MJ XJ
            go_wp2_with fail
            refine (centre_bad W2 H2 m n (some ⟨g2, o2, none⟩) (W2 * H2) c2 z wm (isBools_later HB.out TM.out.l) HCE.out).mono ?_
            rintro e wn ⟨rfl, hbn⟩
            obtain ⟨Q3, hQ3⟩ : ∃ Q3, Q3 = cenErr (pageErr W2 H2 (W2 * H2)) (sizeErr m n) (anyInk z (W2 * H2)) := ⟨_, rfl⟩
            rw [← hQ3] at HCE HW3 ⊢
            have t5 : (Q3 == 0) = false := by simpa using HCE.out
            have TN := TM.out.later hbn
            clear hbn TM u0 k0 k1 k2 m0 hQ3
            go_upto_region 22 with (fail)
            obtain ⟨wo, hwo⟩ : ∃ wo, wo = wn.alloc (.cells #[.int .i64 0, .int .i64 0, .slice none 0 0] 40) := ⟨_, rfl⟩
            have hbwo : Below wn.heap.size wn wo := by rw [hwo]; exact new_below _ _
            have xwo : wo.heap[wn.heap.size]? = some (.cells #[.int .i64 0, .int .i64 0, .slice none 0 0] 40 (0, 0)) := by rw [hwo]; exact heap_alloc_new _ _
            rw [← hwo]
            clear hwo
            have TO := Lib.hid (TN.later hbwo)
            have CO := Lib.hid xwo
            obtain ⟨k0, k1, k2, _, _, _⟩ := block3 TO.out.b
            obtain ⟨m0, _⟩ := block1 TO.out.m
            obtain ⟨u0, _⟩ := block1 TO.out.n
            clear hbwo xwo TN
            go_region_held3 (fun w' => w'.cell? ⟨w.heap.size + 1, 0, none⟩ = some (.int .i64 W2) ∧ w'.cell? ⟨w.heap.size + 1, 1, none⟩ = some (.int .i64 H2) ∧ w'.cell? ⟨w.heap.size + 1, 2, none⟩ = some (.slice (some ⟨g2, o2, none⟩) (W2 * H2) c2) ∧
                w'.cell? ⟨w.heap.size + 1 + 1, 0, none⟩ = some (.int .i64 m) ∧ w'.cell? ⟨w.heap.size + 1 + 1 + 1, 0, none⟩ = some (.int .i64 n))
              (first | (go_keep; done) | (go_split_ands; exact ⟨cell_later hbE (by assumption), cell_later hbE (by assumption), cell_later hbE (by assumption), cell_later hbE (by assumption), cell_later hbE (by assumption)⟩) | (go_split_ands; exact ⟨cell_later hbS (by assumption), cell_later hbS (by assumption), cell_later hbS (by assumption), cell_later hbS (by assumption), cell_later hbS (by assumption)⟩))
              ((first | (go_at_call 27; ((with_reducible refine (bitsError_any W2 H2 (some ⟨g2, o2, none⟩) (W2 * H2) c2 _).mono ?_); rintro e wE ⟨rfl, hbE⟩)) | (go_at_call 48; ((with_reducible refine (sizeError_any m n _).mono ?_); rintro e ws ⟨rfl, hbS⟩)) | (go_at_call 11; refine (first3_new _ _ _ _).mono ?_; rintro e w' ⟨rfl, rfl⟩)))
            rw [HW3.out]
            have hbT := below_alloc (below_step (below_step (Below.refl _ _).drew hbE) hbS) (.cells #[.int .i64 (pageErr W2 H2 (W2 * H2)), .int .i64 (sizeErr m n), .int .i64 10] 27)
            have TQ := TO.out.later hbT
            have CQ := below_block hbT CO.out
            obtain ⟨wq, hwq⟩ : ∃ wq, wq = ws.alloc (.cells #[.int .i64 (pageErr W2 H2 (W2 * H2)), .int .i64 (sizeErr m n), .int .i64 10] 27) := ⟨_, rfl⟩
            rw [← hwq] at TQ CQ ⊢
            obtain ⟨c0, cc1, cc2, _, _, _⟩ := block3 CQ
            clear hwq hbT hbE hbS k0 k1 k2 m0 u0 TO CO CQ
            go_wp2_with fail
            refine (bitsIs_err Q3 _ wq HCE.out).mono ?_
            rintro e wr ⟨rfl, hbr⟩
            have G := Lib.hid (TQ.later hbr).l
            clear hbr TQ
            go_wp2_with fail
            go_ret
            exact ⟨rfl, G.out⟩
          · have HI := Lib.hid hi
            have HM := Lib.hid (margins_ok W2 H2 g2 o2 c2 z we HS2.out hi (isBools_later HB.out TE.out.l))
            clear hi
            go_wp2_with fail
            refine HM.out.mono ?_
            rintro e wf ⟨MX, MY, MW, MH', hmb, rfl, hbf⟩
            obtain ⟨x, y, p3, q3, e1, e2, e3, e4, e5, e6, e7, e8⟩ := boxis_nat hmb
            subst e1 e2 e3 e4
            have HMB := Lib.hid hmb
            have hbf' := hbf
            clear hmb HM
            have TF := TE.out.later hbf
            clear hbf
            go_upto_region 11 with (fail)
            obtain ⟨wg, hwg⟩ : ∃ wg, wg = wf.alloc (.cells #[.int .i64 x, .int .i64 y, .int .i64 ((W2 : Int) - x - p3), .int .i64 ((H2 : Int) - y - q3)] 73) := ⟨_, rfl⟩
            have hbwg : Below wf.heap.size wf wg := by rw [hwg]; exact new_below _ _
            have xwg : wg.heap[wf.heap.size]? = some (.cells #[.int .i64 x, .int .i64 y, .int .i64 ((W2 : Int) - x - p3), .int .i64 ((H2 : Int) - y - q3)] 73 (0, 0)) := by rw [hwg]; exact heap_alloc_new _ _
            rw [← hwg]
            clear hwg
            have TG := TF.later hbwg
            have MG := xwg
            obtain ⟨vx, vy, vu, vv, xe⟩ := XE.out
            have XG := below_block hbwg (below_block hbf' xe)
            have MGX := (Array.getElem?_eq_some_iff.1 (below_block hbf' xe)).1
            clear hbwg xwg TF k0 k1 k2 hbf' xe XE
            obtain ⟨k0, k1, k2, _, _, _⟩ := block3 TG.b
            go_wp2_with fail
            refine (bitsError_any W2 H2 (some ⟨g2, o2, none⟩) (W2 * H2) c2 wg).mono ?_
            rintro e wh ⟨rfl, hbh⟩
            have TH := TG.later hbh
            have MH := below_block hbh MG
            have XH := below_block hbh XG
            clear hbh TG MG k0 k1 k2 XG
            obtain ⟨k0, k1, k2, _, _, _⟩ := block3 TH.b
            go_wp2_with fail
            refine (boundsOf_any W2 H2 g2 o2 c2 z wh bW2 bH2 (fun j hj => cell_later TH.l (HC2.out j hj))).mono ?_
            rintro e wi ⟨BX, BY, BW, BH, bq, rfl, hbox, hbi⟩
            have TI := TH.later hbi
            have MI := below_block hbi MH
            have XI := below_block hbi XH
            obtain ⟨⟨j0, j1, j2, j3⟩, f0, f1, f2, f3⟩ := block4 XI
            clear hbi TH MH XH k0 k1 k2
            have hq := box_any bW2.1 hbox
            rw [HI.out] at hq
            subst hq
            obtain ⟨rfl, rfl, rfl, rfl, _⟩ := box_uniq HMB.out hbox
            clear hbox
            go_upto_region 15 with (fail)
            obtain ⟨wj, hwj⟩ : ∃ wj, wj = (((wi.setCell ⟨wc.heap.size, 0, none⟩ (.int .i64 x)).setCell ⟨wc.heap.size, 1, none⟩ (.int .i64 y)).setCell ⟨wc.heap.size, 2, none⟩ (.int .i64 p3)).setCell ⟨wc.heap.size, 3, none⟩ (.int .i64 q3) := ⟨_, rfl⟩
            have TJ : Sh4 W1 H1 (some ⟨g1, o1, none⟩) (W1 * H1) c1 W2 H2 (some ⟨g2, o2, none⟩) (W2 * H2) c2 m n w wj := by rw [hwj]; exact TI.far4 LX.out
            have MJ := (show wj.heap[wf.heap.size]? = wi.heap[wf.heap.size]? by rw [hwj, heap_far4 (by omega)]).trans MI
            have XJ : wj.heap[wc.heap.size]? = some (.cells #[.int .i64 x, .int .i64 y, .int .i64 p3, .int .i64 q3] 65 (0, 0)) := by rw [hwj]; exact set_agg4 XI
            rw [← hwj]
            clear hwj TI MI XI j0 j1 j2 j3 f0 f1 f2 f3
            go_upto_region 17 with (first | (go_at_call 12; refine (when_f _).mono ?_; rintro e w' ⟨rfl, rfl⟩))
            obtain ⟨wk, hwk⟩ : ∃ wk, wk = wj.alloc (.cells #[.int .i64 0, .int .i64 0, .int .i64 0, .int .i64 0] 73) := ⟨_, rfl⟩
            have hbwk : Below wj.heap.size wj wk := by rw [hwk]; exact new_below _ _
            have xwk : wk.heap[wj.heap.size]? = some (.cells #[.int .i64 0, .int .i64 0, .int .i64 0, .int .i64 0] 73 (0, 0)) := by rw [hwk]; exact heap_alloc_new _ _
            rw [← hwk]
            clear hwk
            have TK := TJ.later hbwk
            have MK := below_block hbwk MJ
            have XK := below_block hbwk XJ
            have lmk := (Array.getElem?_eq_some_iff.1 MJ).1
            have lxk := (Array.getElem?_eq_some_iff.1 XJ).1
            have ltk := TJ.lt
            obtain ⟨⟨x0, x1, x2, x3⟩, _, _, _, _⟩ := block4 XK
            obtain ⟨⟨j0, j1, j2, j3⟩, f0, f1, f2, f3⟩ := block4 xwk
            obtain ⟨k0, k1, k2, _, _, _⟩ := block3 TK.b
            go_upto_region 19 with (fail)
            obtain ⟨wm, hwm⟩ : ∃ wm, wm = (((wk.setCell ⟨wj.heap.size, 0, none⟩ (.int .i64 x)).setCell ⟨wj.heap.size, 1, none⟩ (.int .i64 y)).setCell ⟨wj.heap.size, 2, none⟩ (.int .i64 ((W2 : Int) - x - p3))).setCell ⟨wj.heap.size, 3, none⟩ (.int .i64 ((H2 : Int) - y - q3)) := ⟨_, rfl⟩
            have TM := Lib.hid (show Sh4 W1 H1 (some ⟨g1, o1, none⟩) (W1 * H1) c1 W2 H2 (some ⟨g2, o2, none⟩) (W2 * H2) c2 m n w wm by rw [hwm]; exact TK.far4 ltk)
            have MM := (show wm.heap[wf.heap.size]? = wk.heap[wf.heap.size]? by rw [hwm, heap_far4 (by omega)]).trans MK
            have XM : wm.heap[wj.heap.size]? = some (.cells #[.int .i64 x, .int .i64 y, .int .i64 ((W2 : Int) - x - p3), .int .i64 ((H2 : Int) - y - q3)] 73 (0, 0)) := by rw [hwm]; exact set_agg4 xwk
            rw [← hwm]
            clear hwm hbwk xwk TK MK XK TJ MJ XJ lmk lxk ltk x0 x1 x2 x3 j0 j1 j2 j3 f0 f1 f2 f3 k0 k1 k2
            obtain ⟨⟨o0, o1', o2', o3⟩, _, _, _, _⟩ := block4 MM
            obtain ⟨⟨j0, j1, j2, j3⟩, _, _, _, _⟩ := block4 XM
            obtain ⟨k0, k1, k2, _, _, _⟩ := block3 TM.out.b
            obtain ⟨m0, _⟩ := block1 TM.out.m
            obtain ⟨u0, _⟩ := block1 TM.out.n
            clear MM XM
            go_wp2_with fail
            by_cases hmn : sizeErr m n = 0
            · obtain ⟨⟨mn1, mn2, mn3, mn4⟩, mn5, mn6⟩ := sizeErr_zero hmn
              obtain ⟨m', rfl⟩ := Int.eq_ofNat_of_zero_le (show 0 ≤ m by omega)
              obtain ⟨n', rfl⟩ := Int.eq_ofNat_of_zero_le (show 0 ≤ n by omega)
              have HMN := Lib.hid hmn
              have HMNB := Lib.hid (show m' * n' ≤ 100000000 by rw [← Int.natCast_mul] at mn6; omega)
              have HW3 := Lib.hid (show orI (pageErr W2 H2 (W2 * H2)) (orI (sizeErr m' n') 0) = 0 by rw [HE2.out, hmn]; rfl)
              clear hmn mn5 mn6
              refine (centre_ok W2 H2 g2 o2 c2 m' n' z wm HS2.out HMN.out HI.out (fun j hj => cell_later TM.out.l (HC2.out j hj)) (isBools_later HB.out TM.out.l)).mono ?_
              rintro e wn ⟨cx, cy, cp, cq, gc, cc, hcb, rfl, hzc, hbn⟩
              have HCB := Lib.hid hcb
              have HZC := Lib.hid hzc
              have TN := TM.out.later hbn
              clear hbn TM u0 k0 k1 k2 m0 hcb hzc
              go_upto_region 22 with (fail)
              obtain ⟨wo, hwo⟩ : ∃ wo, wo = wn.alloc (.cells #[.int .i64 m', .int .i64 n', .slice (some ⟨gc, 0, none⟩) (m' * n') cc] 40) := ⟨_, rfl⟩
              have hbwo : Below wn.heap.size wn wo := by rw [hwo]; exact new_below _ _
              have xwo : wo.heap[wn.heap.size]? = some (.cells #[.int .i64 m', .int .i64 n', .slice (some ⟨gc, 0, none⟩) (m' * n') cc] 40 (0, 0)) := by rw [hwo]; exact heap_alloc_new _ _
              rw [← hwo]
              clear hwo
              have TO := Lib.hid (TN.later hbwo)
              have CO := Lib.hid xwo
              have ZO := Lib.hid (fun j hj => cell_later hbwo (HZC.out j hj))
              obtain ⟨k0, k1, k2, _, _, _⟩ := block3 TO.out.b
              obtain ⟨m0, _⟩ := block1 TO.out.m
              obtain ⟨u0, _⟩ := block1 TO.out.n
              clear hbwo xwo TN HZC
              go_region_held3 (fun w' => w'.cell? ⟨w.heap.size + 1, 0, none⟩ = some (.int .i64 W2) ∧ w'.cell? ⟨w.heap.size + 1, 1, none⟩ = some (.int .i64 H2) ∧ w'.cell? ⟨w.heap.size + 1, 2, none⟩ = some (.slice (some ⟨g2, o2, none⟩) (W2 * H2) c2) ∧
                  w'.cell? ⟨w.heap.size + 1 + 1, 0, none⟩ = some (.int .i64 m') ∧ w'.cell? ⟨w.heap.size + 1 + 1 + 1, 0, none⟩ = some (.int .i64 n'))
                (first | (go_keep; done) | (go_split_ands; exact ⟨cell_later hbE (by assumption), cell_later hbE (by assumption), cell_later hbE (by assumption), cell_later hbE (by assumption), cell_later hbE (by assumption)⟩) | (go_split_ands; exact ⟨cell_later hbS (by assumption), cell_later hbS (by assumption), cell_later hbS (by assumption), cell_later hbS (by assumption), cell_later hbS (by assumption)⟩))
                ((first | (go_at_call 27; ((with_reducible refine (bitsError_any W2 H2 (some ⟨g2, o2, none⟩) (W2 * H2) c2 _).mono ?_); rintro e wE ⟨rfl, hbE⟩)) | (go_at_call 48; ((with_reducible refine (sizeError_any m' n' _).mono ?_); rintro e ws ⟨rfl, hbS⟩)) | (go_at_call 11; refine (first3_new _ _ _ _).mono ?_; rintro e w' ⟨rfl, rfl⟩)))
              rw [HW3.out]
              have hbT := below_alloc (below_step (below_step (Below.refl _ _).drew hbE) hbS) (.cells #[.int .i64 (pageErr W2 H2 (W2 * H2)), .int .i64 (sizeErr m' n'), .int .i64 0] 27)
              have TQ := TO.out.later hbT
              have CQ := below_block hbT CO.out
              have ZQ := fun j hj => cell_later hbT (ZO.out j hj)
              obtain ⟨wq, hwq⟩ : ∃ wq, wq = ws.alloc (.cells #[.int .i64 (pageErr W2 H2 (W2 * H2)), .int .i64 (sizeErr m' n'), .int .i64 0] 27) := ⟨_, rfl⟩
              rw [← hwq] at TQ CQ ZQ ⊢
              have HTQ := Lib.hid TQ
              have HZQ := Lib.hid ZQ
              clear hwq hbE hbS k0 k1 k2 m0 u0 TO CO ZO ZQ hbT
              obtain ⟨c0, cc1, cc2, _, _, _⟩ := block3 CQ
              obtain ⟨k0, k1, k2, _, _, _⟩ := block3 TQ.b
              obtain ⟨m0, _⟩ := block1 TQ.m
              obtain ⟨u0, _⟩ := block1 TQ.n
              clear CQ TQ
              go_wp2_with fail
              refine (small_any m' n' wq HMN.out).mono ?_
              rintro e w' ⟨qs, rfl, rfl⟩
              cases qs
              · go_wp2_with fail
                go_ret
                exact ⟨rfl, HTQ.out.l⟩
              · go_wp2_with fail
                refine (bitsIs_ok m' n' gc 0 (m' * n') cc 50 _ (cenZ m' n' cp cq cx cy W2 z) wq HMNB.out (Go.Proofs.enters_of Try.func50 (by kernel_rfl) rfl) HZQ.out (fun wx hbx => sheets1_any W2 H2 g2 o2 c2 m' n' cp cq cx cy _ _ _ z wx HS2.out HMN.out HI.out HCB.out (cell_later hbx k0) (cell_later hbx k1) (cell_later hbx k2) (cell_later hbx m0) (cell_later hbx u0) (fun j hj => cell_later hbx (cell_later HTQ.out.l (HC2.out j hj))))).mono ?_
                rintro e wr ⟨rfl, hbr⟩
                have G := Lib.hid (HTQ.out.later hbr).l
                clear hbr
                go_wp2_with fail
                go_ret
                exact ⟨rfl, G.out⟩
            · have hce : cenErr (pageErr W2 H2 (W2 * H2)) (sizeErr m n) (anyInk z (W2 * H2)) = sizeErr m n := by unfold cenErr; rw [if_pos HE2.out, if_neg hmn]
              have HCE := Lib.hid (show cenErr (pageErr W2 H2 (W2 * H2)) (sizeErr m n) (anyInk z (W2 * H2)) ≠ 0 by rw [hce]; exact hmn)
              have HW3 := Lib.hid (show orI (pageErr W2 H2 (W2 * H2)) (orI (sizeErr m n) 0) = cenErr (pageErr W2 H2 (W2 * H2)) (sizeErr m n) (anyInk z (W2 * H2)) by rw [hce, HE2.out]; unfold orI; simp [hmn])
              clear hce hmn
              refine (centre_bad W2 H2 m n (some ⟨g2, o2, none⟩) (W2 * H2) c2 z wm (isBools_later HB.out TM.out.l) HCE.out).mono ?_
              rintro e wn ⟨rfl, hbn⟩
              obtain ⟨Q3, hQ3⟩ : ∃ Q3, Q3 = cenErr (pageErr W2 H2 (W2 * H2)) (sizeErr m n) (anyInk z (W2 * H2)) := ⟨_, rfl⟩
              rw [← hQ3] at HCE HW3 ⊢
              have t5 : (Q3 == 0) = false := by simpa using HCE.out
              have TN := TM.out.later hbn
              clear hbn TM u0 k0 k1 k2 m0 hQ3
              go_upto_region 22 with (fail)
              obtain ⟨wo, hwo⟩ : ∃ wo, wo = wn.alloc (.cells #[.int .i64 0, .int .i64 0, .slice none 0 0] 40) := ⟨_, rfl⟩
              have hbwo : Below wn.heap.size wn wo := by rw [hwo]; exact new_below _ _
              have xwo : wo.heap[wn.heap.size]? = some (.cells #[.int .i64 0, .int .i64 0, .slice none 0 0] 40 (0, 0)) := by rw [hwo]; exact heap_alloc_new _ _
              rw [← hwo]
              clear hwo
              have TO := Lib.hid (TN.later hbwo)
              have CO := Lib.hid xwo
              obtain ⟨k0, k1, k2, _, _, _⟩ := block3 TO.out.b
              obtain ⟨m0, _⟩ := block1 TO.out.m
              obtain ⟨u0, _⟩ := block1 TO.out.n
              clear hbwo xwo TN
              go_region_held3 (fun w' => w'.cell? ⟨w.heap.size + 1, 0, none⟩ = some (.int .i64 W2) ∧ w'.cell? ⟨w.heap.size + 1, 1, none⟩ = some (.int .i64 H2) ∧ w'.cell? ⟨w.heap.size + 1, 2, none⟩ = some (.slice (some ⟨g2, o2, none⟩) (W2 * H2) c2) ∧
                  w'.cell? ⟨w.heap.size + 1 + 1, 0, none⟩ = some (.int .i64 m) ∧ w'.cell? ⟨w.heap.size + 1 + 1 + 1, 0, none⟩ = some (.int .i64 n))
                (first | (go_keep; done) | (go_split_ands; exact ⟨cell_later hbE (by assumption), cell_later hbE (by assumption), cell_later hbE (by assumption), cell_later hbE (by assumption), cell_later hbE (by assumption)⟩) | (go_split_ands; exact ⟨cell_later hbS (by assumption), cell_later hbS (by assumption), cell_later hbS (by assumption), cell_later hbS (by assumption), cell_later hbS (by assumption)⟩))
                ((first | (go_at_call 27; ((with_reducible refine (bitsError_any W2 H2 (some ⟨g2, o2, none⟩) (W2 * H2) c2 _).mono ?_); rintro e wE ⟨rfl, hbE⟩)) | (go_at_call 48; ((with_reducible refine (sizeError_any m n _).mono ?_); rintro e ws ⟨rfl, hbS⟩)) | (go_at_call 11; refine (first3_new _ _ _ _).mono ?_; rintro e w' ⟨rfl, rfl⟩)))
              rw [HW3.out]
              have hbT := below_alloc (below_step (below_step (Below.refl _ _).drew hbE) hbS) (.cells #[.int .i64 (pageErr W2 H2 (W2 * H2)), .int .i64 (sizeErr m n), .int .i64 0] 27)
              have TQ := TO.out.later hbT
              have CQ := below_block hbT CO.out
              obtain ⟨wq, hwq⟩ : ∃ wq, wq = ws.alloc (.cells #[.int .i64 (pageErr W2 H2 (W2 * H2)), .int .i64 (sizeErr m n), .int .i64 0] 27) := ⟨_, rfl⟩
              rw [← hwq] at TQ CQ ⊢
              obtain ⟨c0, cc1, cc2, _, _, _⟩ := block3 CQ
              clear hwq hbT hbE hbS k0 k1 k2 m0 u0 TO CO CQ
              go_wp2_with fail
              refine (bitsIs_err Q3 _ wq HCE.out).mono ?_
              rintro e wr ⟨rfl, hbr⟩
              have G := Lib.hid (TQ.later hbr).l
              clear hbr TQ
              go_wp2_with fail
              go_ret
              exact ⟨rfl, G.out⟩
        · have hbn : bndErr (pageErr a2 b2 n2) (anyInk z n2) = pageErr a2 b2 n2 := by unfold bndErr; rw [if_neg hE2]
          have hce : cenErr (pageErr a2 b2 n2) (sizeErr m n) (anyInk z n2) = pageErr a2 b2 n2 := by unfold cenErr; rw [if_neg hE2]
          have HCE := Lib.hid (show cenErr (pageErr a2 b2 n2) (sizeErr m n) (anyInk z n2) ≠ 0 by rw [hce]; exact hE2)
          have HW3 := Lib.hid (show orI (pageErr a2 b2 n2) (orI (sizeErr m n) (pageErr a2 b2 n2)) = cenErr (pageErr a2 b2 n2) (sizeErr m n) (anyInk z n2) by rw [hce]; exact want_bad hE2 _)
          have t6 : (pageErr a2 b2 n2 == 0) = false := by simpa using hE2
          have t7 : (pageErr a2 b2 n2 != pageErr a2 b2 n2) = false := by simp
          have HM := Lib.hid (margins_bad a2 b2 s2 n2 c2 z we (isBools_later HB.out TE.out.l) (by rw [hbn]; exact hE2))
          rw [hbn] at HM
          clear hE2 hbn hce
          go_wp2_with fail
          refine HM.out.mono ?_
          rintro e wf ⟨rfl, hbf⟩
          have TF := TE.out.later hbf
          clear hbf HM XE
          go_upto_region 11 with (fail)
          obtain ⟨wg, hwg⟩ : ∃ wg, wg = wf.alloc (.cells #[.int .i64 0, .int .i64 0, .int .i64 0, .int .i64 0] 73) := ⟨_, rfl⟩
          have hbwg : Below wf.heap.size wf wg := by rw [hwg]; exact new_below _ _
          have xwg : wg.heap[wf.heap.size]? = some (.cells #[.int .i64 0, .int .i64 0, .int .i64 0, .int .i64 0] 73 (0, 0)) := by rw [hwg]; exact heap_alloc_new _ _
          rw [← hwg]
          clear hwg
          have TG := TF.later hbwg
          have MG := xwg
          clear hbwg xwg TF k0 k1 k2
          obtain ⟨k0, k1, k2, _, _, _⟩ := block3 TG.b
          go_wp2_with fail
          refine (bitsError_any a2 b2 s2 n2 c2 wg).mono ?_
          rintro e wh ⟨rfl, hbh⟩
          have TH := TG.later hbh
          have MH := below_block hbh MG
          clear hbh TG MG k0 k1 k2
          go_upto_region 17 with (fail)
          obtain ⟨wm, hwm⟩ : ∃ wm, wm = wh.alloc (.cells #[.int .i64 0, .int .i64 0, .int .i64 0, .int .i64 0] 73) := ⟨_, rfl⟩
          have hbwm : Below wh.heap.size wh wm := by rw [hwm]; exact new_below _ _
          have xwm : wm.heap[wh.heap.size]? = some (.cells #[.int .i64 0, .int .i64 0, .int .i64 0, .int .i64 0] 73 (0, 0)) := by rw [hwm]; exact heap_alloc_new _ _
          rw [← hwm]
          clear hwm
          have TM0 := Lib.hid (TH.later hbwm)
          obtain ⟨⟨o0, o1, o2, o3⟩, _, _, _, _⟩ := block4 (below_block hbwm MH)
          obtain ⟨⟨j0, j1, j2, j3⟩, _, _, _, _⟩ := block4 xwm
          obtain ⟨k0, k1, k2, _, _, _⟩ := block3 TM0.out.b
          obtain ⟨m0, _⟩ := block1 TM0.out.m
          obtain ⟨u0, _⟩ := block1 TM0.out.n
          have TM := TM0
          clear hbwm xwm TH MH TM0
          go_wp2_with fail
          refine (centre_bad a2 b2 m n s2 n2 c2 z wm (isBools_later HB.out TM.out.l) HCE.out).mono ?_
          rintro e wn ⟨rfl, hbn⟩
          obtain ⟨Q3, hQ3⟩ : ∃ Q3, Q3 = cenErr (pageErr a2 b2 n2) (sizeErr m n) (anyInk z n2) := ⟨_, rfl⟩
          rw [← hQ3] at HCE HW3 ⊢
          have t5 : (Q3 == 0) = false := by simpa using HCE.out
          have TN := TM.out.later hbn
          clear hbn TM u0 k0 k1 k2 m0 hQ3
          go_upto_region 22 with (fail)
          obtain ⟨wo, hwo⟩ : ∃ wo, wo = wn.alloc (.cells #[.int .i64 0, .int .i64 0, .slice none 0 0] 40) := ⟨_, rfl⟩
          have hbwo : Below wn.heap.size wn wo := by rw [hwo]; exact new_below _ _
          have xwo : wo.heap[wn.heap.size]? = some (.cells #[.int .i64 0, .int .i64 0, .slice none 0 0] 40 (0, 0)) := by rw [hwo]; exact heap_alloc_new _ _
          rw [← hwo]
          clear hwo
          have TO := Lib.hid (TN.later hbwo)
          have CO := Lib.hid xwo
          obtain ⟨k0, k1, k2, _, _, _⟩ := block3 TO.out.b
          obtain ⟨m0, _⟩ := block1 TO.out.m
          obtain ⟨u0, _⟩ := block1 TO.out.n
          clear hbwo xwo TN
          go_region_held3 (fun w' => w'.cell? ⟨w.heap.size + 1, 0, none⟩ = some (.int .i64 a2) ∧ w'.cell? ⟨w.heap.size + 1, 1, none⟩ = some (.int .i64 b2) ∧ w'.cell? ⟨w.heap.size + 1, 2, none⟩ = some (.slice s2 n2 c2) ∧
              w'.cell? ⟨w.heap.size + 1 + 1, 0, none⟩ = some (.int .i64 m) ∧ w'.cell? ⟨w.heap.size + 1 + 1 + 1, 0, none⟩ = some (.int .i64 n))
            (first | (go_keep; done) | (go_split_ands; exact ⟨cell_later hbE (by assumption), cell_later hbE (by assumption), cell_later hbE (by assumption), cell_later hbE (by assumption), cell_later hbE (by assumption)⟩) | (go_split_ands; exact ⟨cell_later hbS (by assumption), cell_later hbS (by assumption), cell_later hbS (by assumption), cell_later hbS (by assumption), cell_later hbS (by assumption)⟩))
            ((first | (go_at_call 27; ((with_reducible refine (bitsError_any a2 b2 s2 n2 c2 _).mono ?_); rintro e wE ⟨rfl, hbE⟩)) | (go_at_call 48; ((with_reducible refine (sizeError_any m n _).mono ?_); rintro e ws ⟨rfl, hbS⟩)) | (go_at_call 11; refine (first3_new _ _ _ _).mono ?_; rintro e w' ⟨rfl, rfl⟩)))
          rw [HW3.out]
          have hbT := below_alloc (below_step (below_step (Below.refl _ _).drew hbE) hbS) (.cells #[.int .i64 (pageErr a2 b2 n2), .int .i64 (sizeErr m n), .int .i64 (pageErr a2 b2 n2)] 27)
          have TQ := TO.out.later hbT
          have CQ := below_block hbT CO.out
          obtain ⟨wq, hwq⟩ : ∃ wq, wq = ws.alloc (.cells #[.int .i64 (pageErr a2 b2 n2), .int .i64 (sizeErr m n), .int .i64 (pageErr a2 b2 n2)] 27) := ⟨_, rfl⟩
          rw [← hwq] at TQ CQ ⊢
          obtain ⟨c0, cc1, cc2, _, _, _⟩ := block3 CQ
          clear hwq hbT hbE hbS k0 k1 k2 m0 u0 TO CO CQ
          go_wp2_with fail
          refine (bitsIs_err Q3 _ wq HCE.out).mono ?_
          rintro e wr ⟨rfl, hbr⟩
          have G := Lib.hid (TQ.later hbr).l
          clear hbr TQ
          go_wp2_with fail
          go_ret
          exact ⟨rfl, G.out⟩
    · obtain ⟨OX, OY, OU, OV, hOV⟩ : ∃ OX OY OU OV : Int, OX = (l : Int) ∧ OY = (t : Int) ∧ OU = (r : Int) - l ∧ OV = (bt : Int) - t := ⟨_, _, _, _, rfl, rfl, rfl, rfl⟩
      have hV : sheetV t bt l r = .tuple #[.agg #[.int .i64 OX, .int .i64 OY, .int .i64 OU, .int .i64 OV], .int .i64 0] := by rw [hOV.1, hOV.2.1, hOV.2.2.1, hOV.2.2.2]; unfold sheetV; rw [if_neg hsv]
      rw [hV]
      have HSV := Lib.hid hsv
      have HOV := Lib.hid hOV
      clear hV hsv hOV
      have TA := Lib.hid (T0.later hba)
      clear hba k0 k1 k2 T0
      go_upto_region 2 with (fail)
      obtain ⟨wb, hwb⟩ : ∃ wb, wb = wa.alloc (.cells #[.int .i64 OX, .int .i64 OY, .int .i64 OU, .int .i64 OV] 65) := ⟨_, rfl⟩
      have hbwb : Below wa.heap.size wa wb := by rw [hwb]; exact new_below _ _
      have xwb : wb.heap[wa.heap.size]? = some (.cells #[.int .i64 OX, .int .i64 OY, .int .i64 OU, .int .i64 OV] 65 (0, 0)) := by rw [hwb]; exact heap_alloc_new _ _
      rw [← hwb]
      clear hwb
      have TB := Lib.hid (TA.out.later hbwb)
      have OB := Lib.hid xwb
      clear hbwb xwb TA
      go_cut [15] from 30 to 42 (fun tv wx => tv = .int .i64 0 ∧ Hid (Sh4 W1 H1 (some ⟨g1, o1, none⟩) (W1 * H1) c1 a2 b2 s2 n2 c2 m n w wx ∧ wx.heap[wa.heap.size]? = some (.cells #[.int .i64 OX, .int .i64 OY, .int .i64 OU, .int .i64 OV] 65 (0, 0))))
      case first =>
        obtain ⟨k0, k1, k2, _, _, _⟩ := block3 TB.out.g
        by_cases hl : 0 ≤ lv ∧ lv ≤ 256
        · by_cases hp : (1 : Int) ≤ p1 ∧ (p1 : Int) ≤ 1000
          · have hv : orI (pageErr W1 H1 (W1 * H1)) (whenI false 3) = 0 := by rw [← HQV.out, ← sheet_want, decide_eq_true hl, decide_eq_true hp]; rfl
            have HV := Lib.hid hv
            have HL9 := Lib.hid hl
            have HP9 := Lib.hid hp
            clear hv hl hp
            go_wp2_with (first | (go_at_call 42; ((with_reducible refine (grayError_any W1 H1 (some ⟨g1, o1, none⟩) (W1 * H1) c1 _).mono ?_); rintro e wg ⟨rfl, hbg⟩)) | (go_at_call 43; ((with_reducible refine (in_yes lv 0 256 _ HL9.out).mono ?_); rintro e w' ⟨rfl, rfl⟩)) | (go_at_call 43; ((with_reducible refine (in_yes (p1 : Int) 1 1000 _ HP9.out).mono ?_); rintro e w' ⟨rfl, rfl⟩)) | (go_at_call 12; refine (when_any _ _ _).mono ?_; rintro e w' ⟨rfl, rfl⟩) | (go_at_call 11; refine (first2_new _ _ _).mono ?_; rintro e w' ⟨rfl, rfl⟩))
            go_meet
            case rel => exact ⟨by rw [HV.out], Lib.hid ⟨TB.out.later (below_alloc hbg _), below_block (below_alloc hbg _) OB.out⟩⟩
          · have hv : orI (pageErr W1 H1 (W1 * H1)) (whenI true 3) = 0 := by rw [← HQV.out, ← sheet_want, decide_eq_true hl, decide_eq_false hp]; rfl
            have HV := Lib.hid hv
            have HL9 := Lib.hid hl
            have HP9 := Lib.hid hp
            clear hv hl hp
            go_wp2_with (first | (go_at_call 42; ((with_reducible refine (grayError_any W1 H1 (some ⟨g1, o1, none⟩) (W1 * H1) c1 _).mono ?_); rintro e wg ⟨rfl, hbg⟩)) | (go_at_call 43; ((with_reducible refine (in_yes lv 0 256 _ HL9.out).mono ?_); rintro e w' ⟨rfl, rfl⟩)) | (go_at_call 43; ((with_reducible refine (in_no (p1 : Int) 1 1000 _ HP9.out).mono ?_); rintro e w' ⟨rfl, rfl⟩)) | (go_at_call 12; refine (when_any _ _ _).mono ?_; rintro e w' ⟨rfl, rfl⟩) | (go_at_call 11; refine (first2_new _ _ _).mono ?_; rintro e w' ⟨rfl, rfl⟩))
            go_meet
            case rel => exact ⟨by rw [HV.out], Lib.hid ⟨TB.out.later (below_alloc hbg _), below_block (below_alloc hbg _) OB.out⟩⟩
        · have hv : orI (pageErr W1 H1 (W1 * H1)) (whenI true 3) = 0 := by rw [← HQV.out, ← sheet_want, decide_eq_false hl]; rfl
          have HV := Lib.hid hv
          have HL9 := Lib.hid hl
          clear hv hl
          go_wp2_with (first | (go_at_call 42; ((with_reducible refine (grayError_any W1 H1 (some ⟨g1, o1, none⟩) (W1 * H1) c1 _).mono ?_); rintro e wg ⟨rfl, hbg⟩)) | (go_at_call 43; ((with_reducible refine (in_no lv 0 256 _ HL9.out).mono ?_); rintro e w' ⟨rfl, rfl⟩)) | (go_at_call 12; refine (when_any _ _ _).mono ?_; rintro e w' ⟨rfl, rfl⟩) | (go_at_call 11; refine (first2_new _ _ _).mono ?_; rintro e w' ⟨rfl, rfl⟩))
          go_meet
          case rel => exact ⟨by rw [HV.out], Lib.hid ⟨TB.out.later (below_alloc hbg _), below_block (below_alloc hbg _) OB.out⟩⟩
      case rest =>
        obtain ⟨rfl, HT⟩ := hcut
        have TC := Lib.hid HT.out.1
        have OC := Lib.hid HT.out.2
        clear HT TB OB
        go_upto_region 4 with (fail)
        obtain ⟨wd, hwd⟩ : ∃ wd, wd = wc.alloc (.cells #[.int .i64 0, .int .i64 0, .int .i64 0, .int .i64 0] 65) := ⟨_, rfl⟩
        have hbwd : Below wc.heap.size wc wd := by rw [hwd]; exact new_below _ _
        have xwd : wd.heap[wc.heap.size]? = some (.cells #[.int .i64 0, .int .i64 0, .int .i64 0, .int .i64 0] 65 (0, 0)) := by rw [hwd]; exact heap_alloc_new _ _
        rw [← hwd]
        clear hwd
        have TD := Lib.hid (TC.out.later hbwd)
        have OD := Lib.hid (below_block hbwd OC.out)
        have XD := Lib.hid xwd
        have hlo := (Array.getElem?_eq_some_iff.1 OC.out).1
        have lx := TC.out.lt
        have LX := Lib.hid lx
        clear hbwd xwd TC OC
        obtain ⟨k0, k1, k2, _, _, _⟩ := block3 TD.out.g
        go_wp2_with fail
        refine (sheetOf_ok W1 H1 (W1 * H1) g1 o1 c1 p1 lv (fun j => zs.getD j 0) wd bW1 bH1 rfl HN1.out hp1 hl1 HZB.out (fun j hj => cell_later TD.out.l (HYC.out j hj))).mono ?_
        rintro e wz ⟨X', Y', bw', bh', is, rfl, hsi, hbz⟩
        have hsm := sheet_same HWR.out HWC.out hsi
        obtain ⟨rfl, e1, e2, e3, e4⟩ := hsm.2 HSV.out
        obtain rfl : X' = OX := e1.trans HOV.out.1.symm
        obtain rfl : Y' = OY := e2.trans HOV.out.2.1.symm
        obtain rfl : bw' = OU := e3.trans HOV.out.2.2.1.symm
        obtain rfl : bh' = OV := e4.trans HOV.out.2.2.2.symm
        clear e1 e2 e3 e4
        have TZ := TD.out.later hbz
        have OZ := below_block hbz OD.out
        have XZ := below_block hbz XD.out
        obtain ⟨⟨j0, j1, j2, j3⟩, f0, f1, f2, f3⟩ := block4 XZ
        clear hsm hsi hbz TD OD XD k0 k1 k2
        go_upto_region 7 with (fail)
        obtain ⟨wy, hwy⟩ : ∃ wy, wy = (((wz.setCell ⟨wc.heap.size, 0, none⟩ (.int .i64 X')).setCell ⟨wc.heap.size, 1, none⟩ (.int .i64 Y')).setCell ⟨wc.heap.size, 2, none⟩ (.int .i64 bw')).setCell ⟨wc.heap.size, 3, none⟩ (.int .i64 bh') := ⟨_, rfl⟩
        have TY := Lib.hid (show Sh4 W1 H1 (some ⟨g1, o1, none⟩) (W1 * H1) c1 a2 b2 s2 n2 c2 m n w wy by rw [hwy]; exact TZ.far4 LX.out)
        have OY := Lib.hid ((show wy.heap[wa.heap.size]? = wz.heap[wa.heap.size]? by rw [hwy, heap_far4 (by omega)]).trans OZ)
        have XY := Lib.hid (show wy.heap[wc.heap.size]? = some (.cells #[.int .i64 X', .int .i64 Y', .int .i64 bw', .int .i64 bh'] 65 (0, 0)) by rw [hwy]; exact set_agg4 XZ)
        rw [← hwy]
        clear hwy TZ OZ XZ j0 j1 j2 j3 f0 f1 f2 f3
        go_wp2_with (first | (go_at_call 12; refine (when_f _).mono ?_; rintro e w' ⟨rfl, rfl⟩) | (go_at_call 12; refine (when_t _).mono ?_; rintro e w' ⟨rfl, rfl⟩))
        refine (skews_any wy).mono ?_
        rintro e we ⟨rfl, hbe⟩
        have TE := Lib.hid (TY.out.later hbe)
        have XE := Lib.hid (show ∃ x y u v, we.heap[wc.heap.size]? = some (.cells #[.int .i64 x, .int .i64 y, .int .i64 u, .int .i64 v] 65 (0, 0)) from ⟨_, _, _, _, below_block hbe XY.out⟩)
        have OE := Lib.hid (below_block hbe OY.out)
        obtain ⟨⟨o0, o1, o2, o3⟩, _, _, _, _⟩ := block4 OE.out
        obtain ⟨⟨j0, j1, j2, j3⟩, _, _, _, _⟩ := block4 (below_block hbe XY.out)
        clear hbe TY XY OY
        go_upto_region 10 with (fail)
        obtain ⟨k0, k1, k2, _, _, _⟩ := block3 TE.out.b
        clear o0 o1 o2 o3 OE
        by_cases hE2 : pageErr a2 b2 n2 = 0
        · obtain ⟨W2, H2, rfl, rfl, rfl, hW21, hW22, hH21, hH22, hN2, he2⟩ := page_nat hE2
          obtain ⟨g2, o2, rfl, hc2⟩ := isBools_cells HB.out (Nat.mul_pos hW21 hH21)
          have bW2 : 1 ≤ W2 ∧ W2 ≤ 4000 := ⟨hW21, hW22⟩
          have bH2 : 1 ≤ H2 ∧ H2 ≤ 4000 := ⟨hH21, hH22⟩
          have HC2 := Lib.hid hc2
          have HS2 := Lib.hid he2
          have HE2 := Lib.hid hE2
          have HN2 := Lib.hid hN2
          have t6 : (pageErr W2 H2 (W2 * H2) == 0) = true := by simpa using hE2
          clear hc2 he2 hE2 hN2 hW21 hW22 hH21 hH22
          cases hi : anyInk z (W2 * H2)
          · have hbn : bndErr (pageErr W2 H2 (W2 * H2)) (anyInk z (W2 * H2)) = 10 := by rw [HE2.out, hi]; rfl
            have hce : cenErr (pageErr W2 H2 (W2 * H2)) (sizeErr m n) (anyInk z (W2 * H2)) ≠ 0 := by
              unfold cenErr
              rw [if_pos HE2.out, hi]
              by_cases h : sizeErr m n = 0
              · rw [if_pos h]; decide
              · rw [if_neg h]; exact h
            have HCE := Lib.hid hce
            have HW3 := Lib.hid (show orI (pageErr W2 H2 (W2 * H2)) (orI (sizeErr m n) 10) = cenErr (pageErr W2 H2 (W2 * H2)) (sizeErr m n) (anyInk z (W2 * H2)) by rw [HE2.out, hi]; unfold orI cenErr; simp)
            have HI := Lib.hid hi
            have HM := Lib.hid (margins_bad W2 H2 (some ⟨g2, o2, none⟩) (W2 * H2) c2 z we (isBools_later HB.out TE.out.l) (by rw [hbn]; decide))
            rw [hbn] at HM
            clear hbn hce hi
            go_wp2_with fail
            refine HM.out.mono ?_
            rintro e wf ⟨rfl, hbf⟩
            have hbf' := hbf
            have TF := TE.out.later hbf
            clear hbf
            go_upto_region 11 with (fail)
            obtain ⟨wg, hwg⟩ : ∃ wg, wg = wf.alloc (.cells #[.int .i64 0, .int .i64 0, .int .i64 0, .int .i64 0] 73) := ⟨_, rfl⟩
            have hbwg : Below wf.heap.size wf wg := by rw [hwg]; exact new_below _ _
            have xwg : wg.heap[wf.heap.size]? = some (.cells #[.int .i64 0, .int .i64 0, .int .i64 0, .int .i64 0] 73 (0, 0)) := by rw [hwg]; exact heap_alloc_new _ _
            rw [← hwg]
            clear hwg
            have TG := TF.later hbwg
            have MG := xwg
            obtain ⟨vx, vy, vu, vv, xe⟩ := XE.out
            have XG := below_block hbwg (below_block hbf' xe)
            have MGX := (Array.getElem?_eq_some_iff.1 (below_block hbf' xe)).1
            clear hbwg xwg TF k0 k1 k2 hbf' xe XE
            obtain ⟨k0, k1, k2, _, _, _⟩ := block3 TG.b
            go_wp2_with fail
            refine (bitsError_any W2 H2 (some ⟨g2, o2, none⟩) (W2 * H2) c2 wg).mono ?_
            rintro e wh ⟨rfl, hbh⟩
            have TH := TG.later hbh
            have MH := below_block hbh MG
            have XH := below_block hbh XG
            clear hbh TG MG k0 k1 k2 XG
            obtain ⟨k0, k1, k2, _, _, _⟩ := block3 TH.b
            go_wp2_with fail
            refine (boundsOf_any W2 H2 g2 o2 c2 z wh bW2 bH2 (fun j hj => cell_later TH.l (HC2.out j hj))).mono ?_
            rintro e wi ⟨BX, BY, BW, BH, bq, rfl, hbox, hbi⟩
            have TI := TH.later hbi
            have MI := below_block hbi MH
            have XI := below_block hbi XH
            obtain ⟨⟨j0, j1, j2, j3⟩, f0, f1, f2, f3⟩ := block4 XI
            clear hbi TH MH XH k0 k1 k2
            have hq := box_any bW2.1 hbox
            rw [HI.out] at hq
            subst hq
            obtain ⟨rfl, rfl, rfl, rfl⟩ : BX = 0 ∧ BY = 0 ∧ BW = 0 ∧ BH = 0 := by
              rcases hbox with ⟨_, e1, e2, e3, e4, _⟩ | ⟨h, _⟩
              · exact ⟨e1, e2, e3, e4⟩
              · cases h
            go_upto_region 15 with (fail)
            obtain ⟨wj, hwj⟩ : ∃ wj, wj = (((wi.setCell ⟨wc.heap.size, 0, none⟩ (.int .i64 0)).setCell ⟨wc.heap.size, 1, none⟩ (.int .i64 0)).setCell ⟨wc.heap.size, 2, none⟩ (.int .i64 0)).setCell ⟨wc.heap.size, 3, none⟩ (.int .i64 0) := ⟨_, rfl⟩
            have TJ : Sh4 W1 H1 (some ⟨g1, o1, none⟩) (W1 * H1) c1 W2 H2 (some ⟨g2, o2, none⟩) (W2 * H2) c2 m n w wj := by rw [hwj]; exact TI.far4 LX.out
            have MJ := (show wj.heap[wf.heap.size]? = wi.heap[wf.heap.size]? by rw [hwj, heap_far4 (by omega)]).trans MI
            have XJ : wj.heap[wc.heap.size]? = some (.cells #[.int .i64 0, .int .i64 0, .int .i64 0, .int .i64 0] 65 (0, 0)) := by rw [hwj]; exact set_agg4 XI
            rw [← hwj]
            clear hwj TI MI XI j0 j1 j2 j3 f0 f1 f2 f3
            go_upto_region 17 with (first | (go_at_call 12; refine (when_t _).mono ?_; rintro e w' ⟨rfl, rfl⟩))
            obtain ⟨wm, hwm⟩ : ∃ wm, wm = wj.alloc (.cells #[.int .i64 0, .int .i64 0, .int .i64 0, .int .i64 0] 73) := ⟨_, rfl⟩
            have hbwm : Below wj.heap.size wj wm := by rw [hwm]; exact new_below _ _
            have xwm : wm.heap[wj.heap.size]? = some (.cells #[.int .i64 0, .int .i64 0, .int .i64 0, .int .i64 0] 73 (0, 0)) := by rw [hwm]; exact heap_alloc_new _ _
            rw [← hwm]
            clear hwm
            have TM := Lib.hid (TJ.later hbwm)
            obtain ⟨⟨o0, o1', o2', o3⟩, _, _, _, _⟩ := block4 (below_block hbwm MJ)
            obtain ⟨⟨j0, j1, j2, j3⟩, _, _, _, _⟩ := block4 xwm
            obtain ⟨k0, k1, k2, _, _, _⟩ := block3 TM.out.b
            obtain ⟨m0, _⟩ := block1 TM.out.m
            obtain ⟨u0, _⟩ := block1 TM.out.n
            clear hbwm xwm TJ MJ XJ
            go_wp2_with fail
            refine (centre_bad W2 H2 m n (some ⟨g2, o2, none⟩) (W2 * H2) c2 z wm (isBools_later HB.out TM.out.l) HCE.out).mono ?_
            rintro e wn ⟨rfl, hbn⟩
            obtain ⟨Q3, hQ3⟩ : ∃ Q3, Q3 = cenErr (pageErr W2 H2 (W2 * H2)) (sizeErr m n) (anyInk z (W2 * H2)) := ⟨_, rfl⟩
            rw [← hQ3] at HCE HW3 ⊢
            have t5 : (Q3 == 0) = false := by simpa using HCE.out
            have TN := TM.out.later hbn
            clear hbn TM u0 k0 k1 k2 m0 hQ3
            go_upto_region 22 with (fail)
            obtain ⟨wo, hwo⟩ : ∃ wo, wo = wn.alloc (.cells #[.int .i64 0, .int .i64 0, .slice none 0 0] 40) := ⟨_, rfl⟩
            have hbwo : Below wn.heap.size wn wo := by rw [hwo]; exact new_below _ _
            have xwo : wo.heap[wn.heap.size]? = some (.cells #[.int .i64 0, .int .i64 0, .slice none 0 0] 40 (0, 0)) := by rw [hwo]; exact heap_alloc_new _ _
            rw [← hwo]
            clear hwo
            have TO := Lib.hid (TN.later hbwo)
            have CO := Lib.hid xwo
            obtain ⟨k0, k1, k2, _, _, _⟩ := block3 TO.out.b
            obtain ⟨m0, _⟩ := block1 TO.out.m
            obtain ⟨u0, _⟩ := block1 TO.out.n
            clear hbwo xwo TN
            go_region_held3 (fun w' => w'.cell? ⟨w.heap.size + 1, 0, none⟩ = some (.int .i64 W2) ∧ w'.cell? ⟨w.heap.size + 1, 1, none⟩ = some (.int .i64 H2) ∧ w'.cell? ⟨w.heap.size + 1, 2, none⟩ = some (.slice (some ⟨g2, o2, none⟩) (W2 * H2) c2) ∧
                w'.cell? ⟨w.heap.size + 1 + 1, 0, none⟩ = some (.int .i64 m) ∧ w'.cell? ⟨w.heap.size + 1 + 1 + 1, 0, none⟩ = some (.int .i64 n))
              (first | (go_keep; done) | (go_split_ands; exact ⟨cell_later hbE (by assumption), cell_later hbE (by assumption), cell_later hbE (by assumption), cell_later hbE (by assumption), cell_later hbE (by assumption)⟩) | (go_split_ands; exact ⟨cell_later hbS (by assumption), cell_later hbS (by assumption), cell_later hbS (by assumption), cell_later hbS (by assumption), cell_later hbS (by assumption)⟩))
              ((first | (go_at_call 27; ((with_reducible refine (bitsError_any W2 H2 (some ⟨g2, o2, none⟩) (W2 * H2) c2 _).mono ?_); rintro e wE ⟨rfl, hbE⟩)) | (go_at_call 48; ((with_reducible refine (sizeError_any m n _).mono ?_); rintro e ws ⟨rfl, hbS⟩)) | (go_at_call 11; refine (first3_new _ _ _ _).mono ?_; rintro e w' ⟨rfl, rfl⟩)))
            rw [HW3.out]
            have hbT := below_alloc (below_step (below_step (Below.refl _ _).drew hbE) hbS) (.cells #[.int .i64 (pageErr W2 H2 (W2 * H2)), .int .i64 (sizeErr m n), .int .i64 10] 27)
            have TQ := TO.out.later hbT
            have CQ := below_block hbT CO.out
            obtain ⟨wq, hwq⟩ : ∃ wq, wq = ws.alloc (.cells #[.int .i64 (pageErr W2 H2 (W2 * H2)), .int .i64 (sizeErr m n), .int .i64 10] 27) := ⟨_, rfl⟩
            rw [← hwq] at TQ CQ ⊢
            obtain ⟨c0, cc1, cc2, _, _, _⟩ := block3 CQ
            clear hwq hbT hbE hbS k0 k1 k2 m0 u0 TO CO CQ
            go_wp2_with fail
            refine (bitsIs_err Q3 _ wq HCE.out).mono ?_
            rintro e wr ⟨rfl, hbr⟩
            have G := Lib.hid (TQ.later hbr).l
            clear hbr TQ
            go_wp2_with fail
            go_ret
            exact ⟨rfl, G.out⟩
          · have HI := Lib.hid hi
            have HM := Lib.hid (margins_ok W2 H2 g2 o2 c2 z we HS2.out hi (isBools_later HB.out TE.out.l))
            clear hi
            go_wp2_with fail
            refine HM.out.mono ?_
            rintro e wf ⟨MX, MY, MW, MH', hmb, rfl, hbf⟩
            obtain ⟨x, y, p3, q3, e1, e2, e3, e4, e5, e6, e7, e8⟩ := boxis_nat hmb
            subst e1 e2 e3 e4
            have HMB := Lib.hid hmb
            have hbf' := hbf
            clear hmb HM
            have TF := TE.out.later hbf
            clear hbf
            go_upto_region 11 with (fail)
            obtain ⟨wg, hwg⟩ : ∃ wg, wg = wf.alloc (.cells #[.int .i64 x, .int .i64 y, .int .i64 ((W2 : Int) - x - p3), .int .i64 ((H2 : Int) - y - q3)] 73) := ⟨_, rfl⟩
            have hbwg : Below wf.heap.size wf wg := by rw [hwg]; exact new_below _ _
            have xwg : wg.heap[wf.heap.size]? = some (.cells #[.int .i64 x, .int .i64 y, .int .i64 ((W2 : Int) - x - p3), .int .i64 ((H2 : Int) - y - q3)] 73 (0, 0)) := by rw [hwg]; exact heap_alloc_new _ _
            rw [← hwg]
            clear hwg
            have TG := TF.later hbwg
            have MG := xwg
            obtain ⟨vx, vy, vu, vv, xe⟩ := XE.out
            have XG := below_block hbwg (below_block hbf' xe)
            have MGX := (Array.getElem?_eq_some_iff.1 (below_block hbf' xe)).1
            clear hbwg xwg TF k0 k1 k2 hbf' xe XE
            obtain ⟨k0, k1, k2, _, _, _⟩ := block3 TG.b
            go_wp2_with fail
            refine (bitsError_any W2 H2 (some ⟨g2, o2, none⟩) (W2 * H2) c2 wg).mono ?_
            rintro e wh ⟨rfl, hbh⟩
            have TH := TG.later hbh
            have MH := below_block hbh MG
            have XH := below_block hbh XG
            clear hbh TG MG k0 k1 k2 XG
            obtain ⟨k0, k1, k2, _, _, _⟩ := block3 TH.b
            go_wp2_with fail
            refine (boundsOf_any W2 H2 g2 o2 c2 z wh bW2 bH2 (fun j hj => cell_later TH.l (HC2.out j hj))).mono ?_
            rintro e wi ⟨BX, BY, BW, BH, bq, rfl, hbox, hbi⟩
            have TI := TH.later hbi
            have MI := below_block hbi MH
            have XI := below_block hbi XH
            obtain ⟨⟨j0, j1, j2, j3⟩, f0, f1, f2, f3⟩ := block4 XI
            clear hbi TH MH XH k0 k1 k2
            have hq := box_any bW2.1 hbox
            rw [HI.out] at hq
            subst hq
            obtain ⟨rfl, rfl, rfl, rfl, _⟩ := box_uniq HMB.out hbox
            clear hbox
            go_upto_region 15 with (fail)
            obtain ⟨wj, hwj⟩ : ∃ wj, wj = (((wi.setCell ⟨wc.heap.size, 0, none⟩ (.int .i64 x)).setCell ⟨wc.heap.size, 1, none⟩ (.int .i64 y)).setCell ⟨wc.heap.size, 2, none⟩ (.int .i64 p3)).setCell ⟨wc.heap.size, 3, none⟩ (.int .i64 q3) := ⟨_, rfl⟩
            have TJ : Sh4 W1 H1 (some ⟨g1, o1, none⟩) (W1 * H1) c1 W2 H2 (some ⟨g2, o2, none⟩) (W2 * H2) c2 m n w wj := by rw [hwj]; exact TI.far4 LX.out
            have MJ := (show wj.heap[wf.heap.size]? = wi.heap[wf.heap.size]? by rw [hwj, heap_far4 (by omega)]).trans MI
            have XJ : wj.heap[wc.heap.size]? = some (.cells #[.int .i64 x, .int .i64 y, .int .i64 p3, .int .i64 q3] 65 (0, 0)) := by rw [hwj]; exact set_agg4 XI
            rw [← hwj]
            clear hwj TI MI XI j0 j1 j2 j3 f0 f1 f2 f3
            go_upto_region 17 with (first | (go_at_call 12; refine (when_f _).mono ?_; rintro e w' ⟨rfl, rfl⟩))
            obtain ⟨wk, hwk⟩ : ∃ wk, wk = wj.alloc (.cells #[.int .i64 0, .int .i64 0, .int .i64 0, .int .i64 0] 73) := ⟨_, rfl⟩
            have hbwk : Below wj.heap.size wj wk := by rw [hwk]; exact new_below _ _
            have xwk : wk.heap[wj.heap.size]? = some (.cells #[.int .i64 0, .int .i64 0, .int .i64 0, .int .i64 0] 73 (0, 0)) := by rw [hwk]; exact heap_alloc_new _ _
            rw [← hwk]
            clear hwk
            have TK := TJ.later hbwk
            have MK := below_block hbwk MJ
            have XK := below_block hbwk XJ
            have lmk := (Array.getElem?_eq_some_iff.1 MJ).1
            have lxk := (Array.getElem?_eq_some_iff.1 XJ).1
            have ltk := TJ.lt
            obtain ⟨⟨x0, x1, x2, x3⟩, _, _, _, _⟩ := block4 XK
            obtain ⟨⟨j0, j1, j2, j3⟩, f0, f1, f2, f3⟩ := block4 xwk
            obtain ⟨k0, k1, k2, _, _, _⟩ := block3 TK.b
            go_upto_region 19 with (fail)
            obtain ⟨wm, hwm⟩ : ∃ wm, wm = (((wk.setCell ⟨wj.heap.size, 0, none⟩ (.int .i64 x)).setCell ⟨wj.heap.size, 1, none⟩ (.int .i64 y)).setCell ⟨wj.heap.size, 2, none⟩ (.int .i64 ((W2 : Int) - x - p3))).setCell ⟨wj.heap.size, 3, none⟩ (.int .i64 ((H2 : Int) - y - q3)) := ⟨_, rfl⟩
            have TM := Lib.hid (show Sh4 W1 H1 (some ⟨g1, o1, none⟩) (W1 * H1) c1 W2 H2 (some ⟨g2, o2, none⟩) (W2 * H2) c2 m n w wm by rw [hwm]; exact TK.far4 ltk)
            have MM := (show wm.heap[wf.heap.size]? = wk.heap[wf.heap.size]? by rw [hwm, heap_far4 (by omega)]).trans MK
            have XM : wm.heap[wj.heap.size]? = some (.cells #[.int .i64 x, .int .i64 y, .int .i64 ((W2 : Int) - x - p3), .int .i64 ((H2 : Int) - y - q3)] 73 (0, 0)) := by rw [hwm]; exact set_agg4 xwk
            rw [← hwm]
            clear hwm hbwk xwk TK MK XK TJ MJ XJ lmk lxk ltk x0 x1 x2 x3 j0 j1 j2 j3 f0 f1 f2 f3 k0 k1 k2
            obtain ⟨⟨o0, o1', o2', o3⟩, _, _, _, _⟩ := block4 MM
            obtain ⟨⟨j0, j1, j2, j3⟩, _, _, _, _⟩ := block4 XM
            obtain ⟨k0, k1, k2, _, _, _⟩ := block3 TM.out.b
            obtain ⟨m0, _⟩ := block1 TM.out.m
            obtain ⟨u0, _⟩ := block1 TM.out.n
            clear MM XM
            go_wp2_with fail
            by_cases hmn : sizeErr m n = 0
            · obtain ⟨⟨mn1, mn2, mn3, mn4⟩, mn5, mn6⟩ := sizeErr_zero hmn
              obtain ⟨m', rfl⟩ := Int.eq_ofNat_of_zero_le (show 0 ≤ m by omega)
              obtain ⟨n', rfl⟩ := Int.eq_ofNat_of_zero_le (show 0 ≤ n by omega)
              have HMN := Lib.hid hmn
              have HMNB := Lib.hid (show m' * n' ≤ 100000000 by rw [← Int.natCast_mul] at mn6; omega)
              have HW3 := Lib.hid (show orI (pageErr W2 H2 (W2 * H2)) (orI (sizeErr m' n') 0) = 0 by rw [HE2.out, hmn]; rfl)
              clear hmn mn5 mn6
              refine (centre_ok W2 H2 g2 o2 c2 m' n' z wm HS2.out HMN.out HI.out (fun j hj => cell_later TM.out.l (HC2.out j hj)) (isBools_later HB.out TM.out.l)).mono ?_
              rintro e wn ⟨cx, cy, cp, cq, gc, cc, hcb, rfl, hzc, hbn⟩
              have HCB := Lib.hid hcb
              have HZC := Lib.hid hzc
              have TN := TM.out.later hbn
              clear hbn TM u0 k0 k1 k2 m0 hcb hzc
              go_upto_region 22 with (fail)
              obtain ⟨wo, hwo⟩ : ∃ wo, wo = wn.alloc (.cells #[.int .i64 m', .int .i64 n', .slice (some ⟨gc, 0, none⟩) (m' * n') cc] 40) := ⟨_, rfl⟩
              have hbwo : Below wn.heap.size wn wo := by rw [hwo]; exact new_below _ _
              have xwo : wo.heap[wn.heap.size]? = some (.cells #[.int .i64 m', .int .i64 n', .slice (some ⟨gc, 0, none⟩) (m' * n') cc] 40 (0, 0)) := by rw [hwo]; exact heap_alloc_new _ _
              rw [← hwo]
              clear hwo
              have TO := Lib.hid (TN.later hbwo)
              have CO := Lib.hid xwo
              have ZO := Lib.hid (fun j hj => cell_later hbwo (HZC.out j hj))
              obtain ⟨k0, k1, k2, _, _, _⟩ := block3 TO.out.b
              obtain ⟨m0, _⟩ := block1 TO.out.m
              obtain ⟨u0, _⟩ := block1 TO.out.n
              clear hbwo xwo TN HZC
              go_region_held3 (fun w' => w'.cell? ⟨w.heap.size + 1, 0, none⟩ = some (.int .i64 W2) ∧ w'.cell? ⟨w.heap.size + 1, 1, none⟩ = some (.int .i64 H2) ∧ w'.cell? ⟨w.heap.size + 1, 2, none⟩ = some (.slice (some ⟨g2, o2, none⟩) (W2 * H2) c2) ∧
                  w'.cell? ⟨w.heap.size + 1 + 1, 0, none⟩ = some (.int .i64 m') ∧ w'.cell? ⟨w.heap.size + 1 + 1 + 1, 0, none⟩ = some (.int .i64 n'))
                (first | (go_keep; done) | (go_split_ands; exact ⟨cell_later hbE (by assumption), cell_later hbE (by assumption), cell_later hbE (by assumption), cell_later hbE (by assumption), cell_later hbE (by assumption)⟩) | (go_split_ands; exact ⟨cell_later hbS (by assumption), cell_later hbS (by assumption), cell_later hbS (by assumption), cell_later hbS (by assumption), cell_later hbS (by assumption)⟩))
                ((first | (go_at_call 27; ((with_reducible refine (bitsError_any W2 H2 (some ⟨g2, o2, none⟩) (W2 * H2) c2 _).mono ?_); rintro e wE ⟨rfl, hbE⟩)) | (go_at_call 48; ((with_reducible refine (sizeError_any m' n' _).mono ?_); rintro e ws ⟨rfl, hbS⟩)) | (go_at_call 11; refine (first3_new _ _ _ _).mono ?_; rintro e w' ⟨rfl, rfl⟩)))
              rw [HW3.out]
              have hbT := below_alloc (below_step (below_step (Below.refl _ _).drew hbE) hbS) (.cells #[.int .i64 (pageErr W2 H2 (W2 * H2)), .int .i64 (sizeErr m' n'), .int .i64 0] 27)
              have TQ := TO.out.later hbT
              have CQ := below_block hbT CO.out
              have ZQ := fun j hj => cell_later hbT (ZO.out j hj)
              obtain ⟨wq, hwq⟩ : ∃ wq, wq = ws.alloc (.cells #[.int .i64 (pageErr W2 H2 (W2 * H2)), .int .i64 (sizeErr m' n'), .int .i64 0] 27) := ⟨_, rfl⟩
              rw [← hwq] at TQ CQ ZQ ⊢
              have HTQ := Lib.hid TQ
              have HZQ := Lib.hid ZQ
              clear hwq hbE hbS k0 k1 k2 m0 u0 TO CO ZO ZQ hbT
              obtain ⟨c0, cc1, cc2, _, _, _⟩ := block3 CQ
              obtain ⟨k0, k1, k2, _, _, _⟩ := block3 TQ.b
              obtain ⟨m0, _⟩ := block1 TQ.m
              obtain ⟨u0, _⟩ := block1 TQ.n
              clear CQ TQ
              go_wp2_with fail
              refine (small_any m' n' wq HMN.out).mono ?_
              rintro e w' ⟨qs, rfl, rfl⟩
              cases qs
              · go_wp2_with fail
                go_ret
                exact ⟨rfl, HTQ.out.l⟩
              · go_wp2_with fail
                refine (bitsIs_ok m' n' gc 0 (m' * n') cc 50 _ (cenZ m' n' cp cq cx cy W2 z) wq HMNB.out (Go.Proofs.enters_of Try.func50 (by kernel_rfl) rfl) HZQ.out (fun wx hbx => sheets1_any W2 H2 g2 o2 c2 m' n' cp cq cx cy _ _ _ z wx HS2.out HMN.out HI.out HCB.out (cell_later hbx k0) (cell_later hbx k1) (cell_later hbx k2) (cell_later hbx m0) (cell_later hbx u0) (fun j hj => cell_later hbx (cell_later HTQ.out.l (HC2.out j hj))))).mono ?_
                rintro e wr ⟨rfl, hbr⟩
                have G := Lib.hid (HTQ.out.later hbr).l
                clear hbr
                go_wp2_with fail
                go_ret
                exact ⟨rfl, G.out⟩
            · have hce : cenErr (pageErr W2 H2 (W2 * H2)) (sizeErr m n) (anyInk z (W2 * H2)) = sizeErr m n := by unfold cenErr; rw [if_pos HE2.out, if_neg hmn]
              have HCE := Lib.hid (show cenErr (pageErr W2 H2 (W2 * H2)) (sizeErr m n) (anyInk z (W2 * H2)) ≠ 0 by rw [hce]; exact hmn)
              have HW3 := Lib.hid (show orI (pageErr W2 H2 (W2 * H2)) (orI (sizeErr m n) 0) = cenErr (pageErr W2 H2 (W2 * H2)) (sizeErr m n) (anyInk z (W2 * H2)) by rw [hce, HE2.out]; unfold orI; simp [hmn])
              clear hce hmn
              refine (centre_bad W2 H2 m n (some ⟨g2, o2, none⟩) (W2 * H2) c2 z wm (isBools_later HB.out TM.out.l) HCE.out).mono ?_
              rintro e wn ⟨rfl, hbn⟩
              obtain ⟨Q3, hQ3⟩ : ∃ Q3, Q3 = cenErr (pageErr W2 H2 (W2 * H2)) (sizeErr m n) (anyInk z (W2 * H2)) := ⟨_, rfl⟩
              rw [← hQ3] at HCE HW3 ⊢
              have t5 : (Q3 == 0) = false := by simpa using HCE.out
              have TN := TM.out.later hbn
              clear hbn TM u0 k0 k1 k2 m0 hQ3
              go_upto_region 22 with (fail)
              obtain ⟨wo, hwo⟩ : ∃ wo, wo = wn.alloc (.cells #[.int .i64 0, .int .i64 0, .slice none 0 0] 40) := ⟨_, rfl⟩
              have hbwo : Below wn.heap.size wn wo := by rw [hwo]; exact new_below _ _
              have xwo : wo.heap[wn.heap.size]? = some (.cells #[.int .i64 0, .int .i64 0, .slice none 0 0] 40 (0, 0)) := by rw [hwo]; exact heap_alloc_new _ _
              rw [← hwo]
              clear hwo
              have TO := Lib.hid (TN.later hbwo)
              have CO := Lib.hid xwo
              obtain ⟨k0, k1, k2, _, _, _⟩ := block3 TO.out.b
              obtain ⟨m0, _⟩ := block1 TO.out.m
              obtain ⟨u0, _⟩ := block1 TO.out.n
              clear hbwo xwo TN
              go_region_held3 (fun w' => w'.cell? ⟨w.heap.size + 1, 0, none⟩ = some (.int .i64 W2) ∧ w'.cell? ⟨w.heap.size + 1, 1, none⟩ = some (.int .i64 H2) ∧ w'.cell? ⟨w.heap.size + 1, 2, none⟩ = some (.slice (some ⟨g2, o2, none⟩) (W2 * H2) c2) ∧
                  w'.cell? ⟨w.heap.size + 1 + 1, 0, none⟩ = some (.int .i64 m) ∧ w'.cell? ⟨w.heap.size + 1 + 1 + 1, 0, none⟩ = some (.int .i64 n))
                (first | (go_keep; done) | (go_split_ands; exact ⟨cell_later hbE (by assumption), cell_later hbE (by assumption), cell_later hbE (by assumption), cell_later hbE (by assumption), cell_later hbE (by assumption)⟩) | (go_split_ands; exact ⟨cell_later hbS (by assumption), cell_later hbS (by assumption), cell_later hbS (by assumption), cell_later hbS (by assumption), cell_later hbS (by assumption)⟩))
                ((first | (go_at_call 27; ((with_reducible refine (bitsError_any W2 H2 (some ⟨g2, o2, none⟩) (W2 * H2) c2 _).mono ?_); rintro e wE ⟨rfl, hbE⟩)) | (go_at_call 48; ((with_reducible refine (sizeError_any m n _).mono ?_); rintro e ws ⟨rfl, hbS⟩)) | (go_at_call 11; refine (first3_new _ _ _ _).mono ?_; rintro e w' ⟨rfl, rfl⟩)))
              rw [HW3.out]
              have hbT := below_alloc (below_step (below_step (Below.refl _ _).drew hbE) hbS) (.cells #[.int .i64 (pageErr W2 H2 (W2 * H2)), .int .i64 (sizeErr m n), .int .i64 0] 27)
              have TQ := TO.out.later hbT
              have CQ := below_block hbT CO.out
              obtain ⟨wq, hwq⟩ : ∃ wq, wq = ws.alloc (.cells #[.int .i64 (pageErr W2 H2 (W2 * H2)), .int .i64 (sizeErr m n), .int .i64 0] 27) := ⟨_, rfl⟩
              rw [← hwq] at TQ CQ ⊢
              obtain ⟨c0, cc1, cc2, _, _, _⟩ := block3 CQ
              clear hwq hbT hbE hbS k0 k1 k2 m0 u0 TO CO CQ
              go_wp2_with fail
              refine (bitsIs_err Q3 _ wq HCE.out).mono ?_
              rintro e wr ⟨rfl, hbr⟩
              have G := Lib.hid (TQ.later hbr).l
              clear hbr TQ
              go_wp2_with fail
              go_ret
              exact ⟨rfl, G.out⟩
        · have hbn : bndErr (pageErr a2 b2 n2) (anyInk z n2) = pageErr a2 b2 n2 := by unfold bndErr; rw [if_neg hE2]
          have hce : cenErr (pageErr a2 b2 n2) (sizeErr m n) (anyInk z n2) = pageErr a2 b2 n2 := by unfold cenErr; rw [if_neg hE2]
          have HCE := Lib.hid (show cenErr (pageErr a2 b2 n2) (sizeErr m n) (anyInk z n2) ≠ 0 by rw [hce]; exact hE2)
          have HW3 := Lib.hid (show orI (pageErr a2 b2 n2) (orI (sizeErr m n) (pageErr a2 b2 n2)) = cenErr (pageErr a2 b2 n2) (sizeErr m n) (anyInk z n2) by rw [hce]; exact want_bad hE2 _)
          have t6 : (pageErr a2 b2 n2 == 0) = false := by simpa using hE2
          have t7 : (pageErr a2 b2 n2 != pageErr a2 b2 n2) = false := by simp
          have HM := Lib.hid (margins_bad a2 b2 s2 n2 c2 z we (isBools_later HB.out TE.out.l) (by rw [hbn]; exact hE2))
          rw [hbn] at HM
          clear hE2 hbn hce
          go_wp2_with fail
          refine HM.out.mono ?_
          rintro e wf ⟨rfl, hbf⟩
          have TF := TE.out.later hbf
          clear hbf HM XE
          go_upto_region 11 with (fail)
          obtain ⟨wg, hwg⟩ : ∃ wg, wg = wf.alloc (.cells #[.int .i64 0, .int .i64 0, .int .i64 0, .int .i64 0] 73) := ⟨_, rfl⟩
          have hbwg : Below wf.heap.size wf wg := by rw [hwg]; exact new_below _ _
          have xwg : wg.heap[wf.heap.size]? = some (.cells #[.int .i64 0, .int .i64 0, .int .i64 0, .int .i64 0] 73 (0, 0)) := by rw [hwg]; exact heap_alloc_new _ _
          rw [← hwg]
          clear hwg
          have TG := TF.later hbwg
          have MG := xwg
          clear hbwg xwg TF k0 k1 k2
          obtain ⟨k0, k1, k2, _, _, _⟩ := block3 TG.b
          go_wp2_with fail
          refine (bitsError_any a2 b2 s2 n2 c2 wg).mono ?_
          rintro e wh ⟨rfl, hbh⟩
          have TH := TG.later hbh
          have MH := below_block hbh MG
          clear hbh TG MG k0 k1 k2
          go_upto_region 17 with (fail)
          obtain ⟨wm, hwm⟩ : ∃ wm, wm = wh.alloc (.cells #[.int .i64 0, .int .i64 0, .int .i64 0, .int .i64 0] 73) := ⟨_, rfl⟩
          have hbwm : Below wh.heap.size wh wm := by rw [hwm]; exact new_below _ _
          have xwm : wm.heap[wh.heap.size]? = some (.cells #[.int .i64 0, .int .i64 0, .int .i64 0, .int .i64 0] 73 (0, 0)) := by rw [hwm]; exact heap_alloc_new _ _
          rw [← hwm]
          clear hwm
          have TM0 := Lib.hid (TH.later hbwm)
          obtain ⟨⟨o0, o1, o2, o3⟩, _, _, _, _⟩ := block4 (below_block hbwm MH)
          obtain ⟨⟨j0, j1, j2, j3⟩, _, _, _, _⟩ := block4 xwm
          obtain ⟨k0, k1, k2, _, _, _⟩ := block3 TM0.out.b
          obtain ⟨m0, _⟩ := block1 TM0.out.m
          obtain ⟨u0, _⟩ := block1 TM0.out.n
          have TM := TM0
          clear hbwm xwm TH MH TM0
          go_wp2_with fail
          refine (centre_bad a2 b2 m n s2 n2 c2 z wm (isBools_later HB.out TM.out.l) HCE.out).mono ?_
          rintro e wn ⟨rfl, hbn⟩
          obtain ⟨Q3, hQ3⟩ : ∃ Q3, Q3 = cenErr (pageErr a2 b2 n2) (sizeErr m n) (anyInk z n2) := ⟨_, rfl⟩
          rw [← hQ3] at HCE HW3 ⊢
          have t5 : (Q3 == 0) = false := by simpa using HCE.out
          have TN := TM.out.later hbn
          clear hbn TM u0 k0 k1 k2 m0 hQ3
          go_upto_region 22 with (fail)
          obtain ⟨wo, hwo⟩ : ∃ wo, wo = wn.alloc (.cells #[.int .i64 0, .int .i64 0, .slice none 0 0] 40) := ⟨_, rfl⟩
          have hbwo : Below wn.heap.size wn wo := by rw [hwo]; exact new_below _ _
          have xwo : wo.heap[wn.heap.size]? = some (.cells #[.int .i64 0, .int .i64 0, .slice none 0 0] 40 (0, 0)) := by rw [hwo]; exact heap_alloc_new _ _
          rw [← hwo]
          clear hwo
          have TO := Lib.hid (TN.later hbwo)
          have CO := Lib.hid xwo
          obtain ⟨k0, k1, k2, _, _, _⟩ := block3 TO.out.b
          obtain ⟨m0, _⟩ := block1 TO.out.m
          obtain ⟨u0, _⟩ := block1 TO.out.n
          clear hbwo xwo TN
          go_region_held3 (fun w' => w'.cell? ⟨w.heap.size + 1, 0, none⟩ = some (.int .i64 a2) ∧ w'.cell? ⟨w.heap.size + 1, 1, none⟩ = some (.int .i64 b2) ∧ w'.cell? ⟨w.heap.size + 1, 2, none⟩ = some (.slice s2 n2 c2) ∧
              w'.cell? ⟨w.heap.size + 1 + 1, 0, none⟩ = some (.int .i64 m) ∧ w'.cell? ⟨w.heap.size + 1 + 1 + 1, 0, none⟩ = some (.int .i64 n))
            (first | (go_keep; done) | (go_split_ands; exact ⟨cell_later hbE (by assumption), cell_later hbE (by assumption), cell_later hbE (by assumption), cell_later hbE (by assumption), cell_later hbE (by assumption)⟩) | (go_split_ands; exact ⟨cell_later hbS (by assumption), cell_later hbS (by assumption), cell_later hbS (by assumption), cell_later hbS (by assumption), cell_later hbS (by assumption)⟩))
            ((first | (go_at_call 27; ((with_reducible refine (bitsError_any a2 b2 s2 n2 c2 _).mono ?_); rintro e wE ⟨rfl, hbE⟩)) | (go_at_call 48; ((with_reducible refine (sizeError_any m n _).mono ?_); rintro e ws ⟨rfl, hbS⟩)) | (go_at_call 11; refine (first3_new _ _ _ _).mono ?_; rintro e w' ⟨rfl, rfl⟩)))
          rw [HW3.out]
          have hbT := below_alloc (below_step (below_step (Below.refl _ _).drew hbE) hbS) (.cells #[.int .i64 (pageErr a2 b2 n2), .int .i64 (sizeErr m n), .int .i64 (pageErr a2 b2 n2)] 27)
          have TQ := TO.out.later hbT
          have CQ := below_block hbT CO.out
          obtain ⟨wq, hwq⟩ : ∃ wq, wq = ws.alloc (.cells #[.int .i64 (pageErr a2 b2 n2), .int .i64 (sizeErr m n), .int .i64 (pageErr a2 b2 n2)] 27) := ⟨_, rfl⟩
          rw [← hwq] at TQ CQ ⊢
          obtain ⟨c0, cc1, cc2, _, _, _⟩ := block3 CQ
          clear hwq hbT hbE hbS k0 k1 k2 m0 u0 TO CO CQ
          go_wp2_with fail
          refine (bitsIs_err Q3 _ wq HCE.out).mono ?_
          rintro e wr ⟨rfl, hbr⟩
          have G := Lib.hid (TQ.later hbr).l
          clear hbr TQ
          go_wp2_with fail
          go_ret
          exact ⟨rfl, G.out⟩
  · have hQ2 := hQ
    obtain ⟨Qv, hQv⟩ : ∃ Qv, Qv = shErr (pageErr a1 b1 n1) lv p := ⟨_, rfl⟩
    have HQV := Lib.hid hQv.symm
    have HQ0 := Lib.hid hQ2
    have t1 : (Qv == 0) = false := by rw [hQv]; simpa using hQ2
    have t2 : (Qv != Qv) = false := by simp
    have t3 : (Qv != 0) = true := by rw [hQv]; simpa using hQ2
    clear hQ hQ2 hQv
    go_enter Try.func6, Try.ntmps6
    go_upto_region 1 with (fail)
    rw [← hw0]
    clear hw0
    obtain ⟨k0, k1, k2, _, _, _⟩ := block3 T0.g
    go_wp2_with fail
    refine (sheet_bad a1 b1 lv p s1 n1 c1 w0 HQ0.out).mono ?_
    rintro e wa ⟨rfl, hba⟩
    rw [HQV.out]
    have TA := Lib.hid (T0.later hba)
    clear hba k0 k1 k2 T0
    go_upto_region 2 with (fail)
    obtain ⟨wb, hwb⟩ : ∃ wb, wb = wa.alloc (.cells #[.int .i64 0, .int .i64 0, .int .i64 0, .int .i64 0] 65) := ⟨_, rfl⟩
    have hbwb : Below wa.heap.size wa wb := by rw [hwb]; exact new_below _ _
    have xwb : wb.heap[wa.heap.size]? = some (.cells #[.int .i64 0, .int .i64 0, .int .i64 0, .int .i64 0] 65 (0, 0)) := by rw [hwb]; exact heap_alloc_new _ _
    rw [← hwb]
    clear hwb
    have TB := Lib.hid (TA.out.later hbwb)
    have OB := Lib.hid xwb
    clear hbwb xwb TA
    go_cut [15] from 30 to 42 (fun tv wx => tv = .int .i64 Qv ∧ Hid (Sh4 a1 b1 s1 n1 c1 a2 b2 s2 n2 c2 m n w wx ∧ wx.heap[wa.heap.size]? = some (.cells #[.int .i64 0, .int .i64 0, .int .i64 0, .int .i64 0] 65 (0, 0))))
    case first =>
      obtain ⟨k0, k1, k2, _, _, _⟩ := block3 TB.out.g
      by_cases hl : 0 ≤ lv ∧ lv ≤ 256
      · by_cases hp : 1 ≤ p ∧ p ≤ 1000
        · have hv : orI (pageErr a1 b1 n1) (whenI false 3) = Qv := by rw [← HQV.out, ← sheet_want, decide_eq_true hl, decide_eq_true hp]; rfl
          have HV := Lib.hid hv
          have HL9 := Lib.hid hl
          have HP9 := Lib.hid hp
          clear hv hl hp
          go_wp2_with (first | (go_at_call 42; ((with_reducible refine (grayError_any a1 b1 s1 n1 c1 _).mono ?_); rintro e wg ⟨rfl, hbg⟩)) | (go_at_call 43; ((with_reducible refine (in_yes lv 0 256 _ HL9.out).mono ?_); rintro e w' ⟨rfl, rfl⟩)) | (go_at_call 43; ((with_reducible refine (in_yes p 1 1000 _ HP9.out).mono ?_); rintro e w' ⟨rfl, rfl⟩)) | (go_at_call 12; refine (when_any _ _ _).mono ?_; rintro e w' ⟨rfl, rfl⟩) | (go_at_call 11; refine (first2_new _ _ _).mono ?_; rintro e w' ⟨rfl, rfl⟩))
          go_meet
          case rel => exact ⟨by rw [HV.out], Lib.hid ⟨TB.out.later (below_alloc hbg _), below_block (below_alloc hbg _) OB.out⟩⟩
        · have hv : orI (pageErr a1 b1 n1) (whenI true 3) = Qv := by rw [← HQV.out, ← sheet_want, decide_eq_true hl, decide_eq_false hp]; rfl
          have HV := Lib.hid hv
          have HL9 := Lib.hid hl
          have HP9 := Lib.hid hp
          clear hv hl hp
          go_wp2_with (first | (go_at_call 42; ((with_reducible refine (grayError_any a1 b1 s1 n1 c1 _).mono ?_); rintro e wg ⟨rfl, hbg⟩)) | (go_at_call 43; ((with_reducible refine (in_yes lv 0 256 _ HL9.out).mono ?_); rintro e w' ⟨rfl, rfl⟩)) | (go_at_call 43; ((with_reducible refine (in_no p 1 1000 _ HP9.out).mono ?_); rintro e w' ⟨rfl, rfl⟩)) | (go_at_call 12; refine (when_any _ _ _).mono ?_; rintro e w' ⟨rfl, rfl⟩) | (go_at_call 11; refine (first2_new _ _ _).mono ?_; rintro e w' ⟨rfl, rfl⟩))
          go_meet
          case rel => exact ⟨by rw [HV.out], Lib.hid ⟨TB.out.later (below_alloc hbg _), below_block (below_alloc hbg _) OB.out⟩⟩
      · have hv : orI (pageErr a1 b1 n1) (whenI true 3) = Qv := by rw [← HQV.out, ← sheet_want, decide_eq_false hl]; rfl
        have HV := Lib.hid hv
        have HL9 := Lib.hid hl
        clear hv hl
        go_wp2_with (first | (go_at_call 42; ((with_reducible refine (grayError_any a1 b1 s1 n1 c1 _).mono ?_); rintro e wg ⟨rfl, hbg⟩)) | (go_at_call 43; ((with_reducible refine (in_no lv 0 256 _ HL9.out).mono ?_); rintro e w' ⟨rfl, rfl⟩)) | (go_at_call 12; refine (when_any _ _ _).mono ?_; rintro e w' ⟨rfl, rfl⟩) | (go_at_call 11; refine (first2_new _ _ _).mono ?_; rintro e w' ⟨rfl, rfl⟩))
        go_meet
        case rel => exact ⟨by rw [HV.out], Lib.hid ⟨TB.out.later (below_alloc hbg _), below_block (below_alloc hbg _) OB.out⟩⟩
    case rest =>
      obtain ⟨rfl, HT⟩ := hcut
      have TC := Lib.hid HT.out.1
      have OC := Lib.hid HT.out.2
      clear HT TB OB
      go_upto_region 4 with (fail)
      obtain ⟨wd, hwd⟩ : ∃ wd, wd = wc.alloc (.cells #[.int .i64 0, .int .i64 0, .int .i64 0, .int .i64 0] 65) := ⟨_, rfl⟩
      have hbwd : Below wc.heap.size wc wd := by rw [hwd]; exact new_below _ _
      have xwd : wd.heap[wc.heap.size]? = some (.cells #[.int .i64 0, .int .i64 0, .int .i64 0, .int .i64 0] 65 (0, 0)) := by rw [hwd]; exact heap_alloc_new _ _
      rw [← hwd]
      clear hwd
      have TD := Lib.hid (TC.out.later hbwd)
      have OD := Lib.hid (below_block hbwd OC.out)
      have XD := Lib.hid xwd
      have hlo := (Array.getElem?_eq_some_iff.1 OC.out).1
      have lx := TC.out.lt
      have LX := Lib.hid lx
      clear hbwd xwd TC OC
      obtain ⟨⟨o0, o1, o2, o3⟩, _, _, _, _⟩ := block4 OD.out
      go_wp2_with fail
      refine (skews_any wd).mono ?_
      rintro e we ⟨rfl, hbe⟩
      have TE := Lib.hid (TD.out.later hbe)
      have XE := Lib.hid (show ∃ x y u v, we.heap[wc.heap.size]? = some (.cells #[.int .i64 x, .int .i64 y, .int .i64 u, .int .i64 v] 65 (0, 0)) from ⟨_, _, _, _, below_block hbe XD.out⟩)
      have OE := Lib.hid (below_block hbe OD.out)
      clear hbe TD XD OD o0 o1 o2 o3
      obtain ⟨⟨o0, o1, o2, o3⟩, _, _, _, _⟩ := block4 OE.out
      go_upto_region 10 with (fail)
      obtain ⟨k0, k1, k2, _, _, _⟩ := block3 TE.out.b
      clear o0 o1 o2 o3 OE
      by_cases hE2 : pageErr a2 b2 n2 = 0
      · obtain ⟨W2, H2, rfl, rfl, rfl, hW21, hW22, hH21, hH22, hN2, he2⟩ := page_nat hE2
        obtain ⟨g2, o2, rfl, hc2⟩ := isBools_cells HB.out (Nat.mul_pos hW21 hH21)
        have bW2 : 1 ≤ W2 ∧ W2 ≤ 4000 := ⟨hW21, hW22⟩
        have bH2 : 1 ≤ H2 ∧ H2 ≤ 4000 := ⟨hH21, hH22⟩
        have HC2 := Lib.hid hc2
        have HS2 := Lib.hid he2
        have HE2 := Lib.hid hE2
        have HN2 := Lib.hid hN2
        have t6 : (pageErr W2 H2 (W2 * H2) == 0) = true := by simpa using hE2
        clear hc2 he2 hE2 hN2 hW21 hW22 hH21 hH22
        cases hi : anyInk z (W2 * H2)
        · have hbn : bndErr (pageErr W2 H2 (W2 * H2)) (anyInk z (W2 * H2)) = 10 := by rw [HE2.out, hi]; rfl
          have hce : cenErr (pageErr W2 H2 (W2 * H2)) (sizeErr m n) (anyInk z (W2 * H2)) ≠ 0 := by
            unfold cenErr
            rw [if_pos HE2.out, hi]
            by_cases h : sizeErr m n = 0
            · rw [if_pos h]; decide
            · rw [if_neg h]; exact h
          have HCE := Lib.hid hce
          have HW3 := Lib.hid (show orI (pageErr W2 H2 (W2 * H2)) (orI (sizeErr m n) 10) = cenErr (pageErr W2 H2 (W2 * H2)) (sizeErr m n) (anyInk z (W2 * H2)) by rw [HE2.out, hi]; unfold orI cenErr; simp)
          have HI := Lib.hid hi
          have HM := Lib.hid (margins_bad W2 H2 (some ⟨g2, o2, none⟩) (W2 * H2) c2 z we (isBools_later HB.out TE.out.l) (by rw [hbn]; decide))
          rw [hbn] at HM
          clear hbn hce hi
          go_wp2_with fail
          refine HM.out.mono ?_
          rintro e wf ⟨rfl, hbf⟩
          have hbf' := hbf
          have TF := TE.out.later hbf
          clear hbf
          go_upto_region 11 with (fail)
          obtain ⟨wg, hwg⟩ : ∃ wg, wg = wf.alloc (.cells #[.int .i64 0, .int .i64 0, .int .i64 0, .int .i64 0] 73) := ⟨_, rfl⟩
          have hbwg : Below wf.heap.size wf wg := by rw [hwg]; exact new_below _ _
          have xwg : wg.heap[wf.heap.size]? = some (.cells #[.int .i64 0, .int .i64 0, .int .i64 0, .int .i64 0] 73 (0, 0)) := by rw [hwg]; exact heap_alloc_new _ _
          rw [← hwg]
          clear hwg
          have TG := TF.later hbwg
          have MG := xwg
          obtain ⟨vx, vy, vu, vv, xe⟩ := XE.out
          have XG := below_block hbwg (below_block hbf' xe)
          have MGX := (Array.getElem?_eq_some_iff.1 (below_block hbf' xe)).1
          clear hbwg xwg TF k0 k1 k2 hbf' xe XE
          obtain ⟨k0, k1, k2, _, _, _⟩ := block3 TG.b
          go_wp2_with fail
          refine (bitsError_any W2 H2 (some ⟨g2, o2, none⟩) (W2 * H2) c2 wg).mono ?_
          rintro e wh ⟨rfl, hbh⟩
          have TH := TG.later hbh
          have MH := below_block hbh MG
          have XH := below_block hbh XG
          clear hbh TG MG k0 k1 k2 XG
          obtain ⟨k0, k1, k2, _, _, _⟩ := block3 TH.b
          go_wp2_with fail
          refine (boundsOf_any W2 H2 g2 o2 c2 z wh bW2 bH2 (fun j hj => cell_later TH.l (HC2.out j hj))).mono ?_
          rintro e wi ⟨BX, BY, BW, BH, bq, rfl, hbox, hbi⟩
          have TI := TH.later hbi
          have MI := below_block hbi MH
          have XI := below_block hbi XH
          obtain ⟨⟨j0, j1, j2, j3⟩, f0, f1, f2, f3⟩ := block4 XI
          clear hbi TH MH XH k0 k1 k2
          have hq := box_any bW2.1 hbox
          rw [HI.out] at hq
          subst hq
          obtain ⟨rfl, rfl, rfl, rfl⟩ : BX = 0 ∧ BY = 0 ∧ BW = 0 ∧ BH = 0 := by
            rcases hbox with ⟨_, e1, e2, e3, e4, _⟩ | ⟨h, _⟩
            · exact ⟨e1, e2, e3, e4⟩
            · cases h
          go_upto_region 15 with (fail)
          obtain ⟨wj, hwj⟩ : ∃ wj, wj = (((wi.setCell ⟨wc.heap.size, 0, none⟩ (.int .i64 0)).setCell ⟨wc.heap.size, 1, none⟩ (.int .i64 0)).setCell ⟨wc.heap.size, 2, none⟩ (.int .i64 0)).setCell ⟨wc.heap.size, 3, none⟩ (.int .i64 0) := ⟨_, rfl⟩
          have TJ : Sh4 a1 b1 s1 n1 c1 W2 H2 (some ⟨g2, o2, none⟩) (W2 * H2) c2 m n w wj := by rw [hwj]; exact TI.far4 LX.out
          have MJ := (show wj.heap[wf.heap.size]? = wi.heap[wf.heap.size]? by rw [hwj, heap_far4 (by omega)]).trans MI
          have XJ : wj.heap[wc.heap.size]? = some (.cells #[.int .i64 0, .int .i64 0, .int .i64 0, .int .i64 0] 65 (0, 0)) := by rw [hwj]; exact set_agg4 XI
          rw [← hwj]
          clear hwj TI MI XI j0 j1 j2 j3 f0 f1 f2 f3
          go_upto_region 17 with (first | (go_at_call 12; refine (when_t _).mono ?_; rintro e w' ⟨rfl, rfl⟩))
          obtain ⟨wm, hwm⟩ : ∃ wm, wm = wj.alloc (.cells #[.int .i64 0, .int .i64 0, .int .i64 0, .int .i64 0] 73) := ⟨_, rfl⟩
          have hbwm : Below wj.heap.size wj wm := by rw [hwm]; exact new_below _ _
          have xwm : wm.heap[wj.heap.size]? = some (.cells #[.int .i64 0, .int .i64 0, .int .i64 0, .int .i64 0] 73 (0, 0)) := by rw [hwm]; exact heap_alloc_new _ _
          rw [← hwm]
          clear hwm
          have TM := Lib.hid (TJ.later hbwm)
          obtain ⟨⟨o0, o1', o2', o3⟩, _, _, _, _⟩ := block4 (below_block hbwm MJ)
          obtain ⟨⟨j0, j1, j2, j3⟩, _, _, _, _⟩ := block4 xwm
          obtain ⟨k0, k1, k2, _, _, _⟩ := block3 TM.out.b
          obtain ⟨m0, _⟩ := block1 TM.out.m
          obtain ⟨u0, _⟩ := block1 TM.out.n
          clear hbwm xwm TJ MJ XJ
          go_wp2_with fail
          refine (centre_bad W2 H2 m n (some ⟨g2, o2, none⟩) (W2 * H2) c2 z wm (isBools_later HB.out TM.out.l) HCE.out).mono ?_
          rintro e wn ⟨rfl, hbn⟩
          obtain ⟨Q3, hQ3⟩ : ∃ Q3, Q3 = cenErr (pageErr W2 H2 (W2 * H2)) (sizeErr m n) (anyInk z (W2 * H2)) := ⟨_, rfl⟩
          rw [← hQ3] at HCE HW3 ⊢
          have t5 : (Q3 == 0) = false := by simpa using HCE.out
          have TN := TM.out.later hbn
          clear hbn TM u0 k0 k1 k2 m0 hQ3
          go_upto_region 22 with (fail)
          obtain ⟨wo, hwo⟩ : ∃ wo, wo = wn.alloc (.cells #[.int .i64 0, .int .i64 0, .slice none 0 0] 40) := ⟨_, rfl⟩
          have hbwo : Below wn.heap.size wn wo := by rw [hwo]; exact new_below _ _
          have xwo : wo.heap[wn.heap.size]? = some (.cells #[.int .i64 0, .int .i64 0, .slice none 0 0] 40 (0, 0)) := by rw [hwo]; exact heap_alloc_new _ _
          rw [← hwo]
          clear hwo
          have TO := Lib.hid (TN.later hbwo)
          have CO := Lib.hid xwo
          obtain ⟨k0, k1, k2, _, _, _⟩ := block3 TO.out.b
          obtain ⟨m0, _⟩ := block1 TO.out.m
          obtain ⟨u0, _⟩ := block1 TO.out.n
          clear hbwo xwo TN
          go_region_held3 (fun w' => w'.cell? ⟨w.heap.size + 1, 0, none⟩ = some (.int .i64 W2) ∧ w'.cell? ⟨w.heap.size + 1, 1, none⟩ = some (.int .i64 H2) ∧ w'.cell? ⟨w.heap.size + 1, 2, none⟩ = some (.slice (some ⟨g2, o2, none⟩) (W2 * H2) c2) ∧
              w'.cell? ⟨w.heap.size + 1 + 1, 0, none⟩ = some (.int .i64 m) ∧ w'.cell? ⟨w.heap.size + 1 + 1 + 1, 0, none⟩ = some (.int .i64 n))
            (first | (go_keep; done) | (go_split_ands; exact ⟨cell_later hbE (by assumption), cell_later hbE (by assumption), cell_later hbE (by assumption), cell_later hbE (by assumption), cell_later hbE (by assumption)⟩) | (go_split_ands; exact ⟨cell_later hbS (by assumption), cell_later hbS (by assumption), cell_later hbS (by assumption), cell_later hbS (by assumption), cell_later hbS (by assumption)⟩))
            ((first | (go_at_call 27; ((with_reducible refine (bitsError_any W2 H2 (some ⟨g2, o2, none⟩) (W2 * H2) c2 _).mono ?_); rintro e wE ⟨rfl, hbE⟩)) | (go_at_call 48; ((with_reducible refine (sizeError_any m n _).mono ?_); rintro e ws ⟨rfl, hbS⟩)) | (go_at_call 11; refine (first3_new _ _ _ _).mono ?_; rintro e w' ⟨rfl, rfl⟩)))
          rw [HW3.out]
          have hbT := below_alloc (below_step (below_step (Below.refl _ _).drew hbE) hbS) (.cells #[.int .i64 (pageErr W2 H2 (W2 * H2)), .int .i64 (sizeErr m n), .int .i64 10] 27)
          have TQ := TO.out.later hbT
          have CQ := below_block hbT CO.out
          obtain ⟨wq, hwq⟩ : ∃ wq, wq = ws.alloc (.cells #[.int .i64 (pageErr W2 H2 (W2 * H2)), .int .i64 (sizeErr m n), .int .i64 10] 27) := ⟨_, rfl⟩
          rw [← hwq] at TQ CQ ⊢
          obtain ⟨c0, cc1, cc2, _, _, _⟩ := block3 CQ
          clear hwq hbT hbE hbS k0 k1 k2 m0 u0 TO CO CQ
          go_wp2_with fail
          refine (bitsIs_err Q3 _ wq HCE.out).mono ?_
          rintro e wr ⟨rfl, hbr⟩
          have G := Lib.hid (TQ.later hbr).l
          clear hbr TQ
          go_wp2_with fail
          go_ret
          exact ⟨rfl, G.out⟩
        · have HI := Lib.hid hi
          have HM := Lib.hid (margins_ok W2 H2 g2 o2 c2 z we HS2.out hi (isBools_later HB.out TE.out.l))
          clear hi
          go_wp2_with fail
          refine HM.out.mono ?_
          rintro e wf ⟨MX, MY, MW, MH', hmb, rfl, hbf⟩
          obtain ⟨x, y, p3, q3, e1, e2, e3, e4, e5, e6, e7, e8⟩ := boxis_nat hmb
          subst e1 e2 e3 e4
          have HMB := Lib.hid hmb
          have hbf' := hbf
          clear hmb HM
          have TF := TE.out.later hbf
          clear hbf
          go_upto_region 11 with (fail)
          obtain ⟨wg, hwg⟩ : ∃ wg, wg = wf.alloc (.cells #[.int .i64 x, .int .i64 y, .int .i64 ((W2 : Int) - x - p3), .int .i64 ((H2 : Int) - y - q3)] 73) := ⟨_, rfl⟩
          have hbwg : Below wf.heap.size wf wg := by rw [hwg]; exact new_below _ _
          have xwg : wg.heap[wf.heap.size]? = some (.cells #[.int .i64 x, .int .i64 y, .int .i64 ((W2 : Int) - x - p3), .int .i64 ((H2 : Int) - y - q3)] 73 (0, 0)) := by rw [hwg]; exact heap_alloc_new _ _
          rw [← hwg]
          clear hwg
          have TG := TF.later hbwg
          have MG := xwg
          obtain ⟨vx, vy, vu, vv, xe⟩ := XE.out
          have XG := below_block hbwg (below_block hbf' xe)
          have MGX := (Array.getElem?_eq_some_iff.1 (below_block hbf' xe)).1
          clear hbwg xwg TF k0 k1 k2 hbf' xe XE
          obtain ⟨k0, k1, k2, _, _, _⟩ := block3 TG.b
          go_wp2_with fail
          refine (bitsError_any W2 H2 (some ⟨g2, o2, none⟩) (W2 * H2) c2 wg).mono ?_
          rintro e wh ⟨rfl, hbh⟩
          have TH := TG.later hbh
          have MH := below_block hbh MG
          have XH := below_block hbh XG
          clear hbh TG MG k0 k1 k2 XG
          obtain ⟨k0, k1, k2, _, _, _⟩ := block3 TH.b
          go_wp2_with fail
          refine (boundsOf_any W2 H2 g2 o2 c2 z wh bW2 bH2 (fun j hj => cell_later TH.l (HC2.out j hj))).mono ?_
          rintro e wi ⟨BX, BY, BW, BH, bq, rfl, hbox, hbi⟩
          have TI := TH.later hbi
          have MI := below_block hbi MH
          have XI := below_block hbi XH
          obtain ⟨⟨j0, j1, j2, j3⟩, f0, f1, f2, f3⟩ := block4 XI
          clear hbi TH MH XH k0 k1 k2
          have hq := box_any bW2.1 hbox
          rw [HI.out] at hq
          subst hq
          obtain ⟨rfl, rfl, rfl, rfl, _⟩ := box_uniq HMB.out hbox
          clear hbox
          go_upto_region 15 with (fail)
          obtain ⟨wj, hwj⟩ : ∃ wj, wj = (((wi.setCell ⟨wc.heap.size, 0, none⟩ (.int .i64 x)).setCell ⟨wc.heap.size, 1, none⟩ (.int .i64 y)).setCell ⟨wc.heap.size, 2, none⟩ (.int .i64 p3)).setCell ⟨wc.heap.size, 3, none⟩ (.int .i64 q3) := ⟨_, rfl⟩
          have TJ : Sh4 a1 b1 s1 n1 c1 W2 H2 (some ⟨g2, o2, none⟩) (W2 * H2) c2 m n w wj := by rw [hwj]; exact TI.far4 LX.out
          have MJ := (show wj.heap[wf.heap.size]? = wi.heap[wf.heap.size]? by rw [hwj, heap_far4 (by omega)]).trans MI
          have XJ : wj.heap[wc.heap.size]? = some (.cells #[.int .i64 x, .int .i64 y, .int .i64 p3, .int .i64 q3] 65 (0, 0)) := by rw [hwj]; exact set_agg4 XI
          rw [← hwj]
          clear hwj TI MI XI j0 j1 j2 j3 f0 f1 f2 f3
          go_upto_region 17 with (first | (go_at_call 12; refine (when_f _).mono ?_; rintro e w' ⟨rfl, rfl⟩))
          obtain ⟨wk, hwk⟩ : ∃ wk, wk = wj.alloc (.cells #[.int .i64 0, .int .i64 0, .int .i64 0, .int .i64 0] 73) := ⟨_, rfl⟩
          have hbwk : Below wj.heap.size wj wk := by rw [hwk]; exact new_below _ _
          have xwk : wk.heap[wj.heap.size]? = some (.cells #[.int .i64 0, .int .i64 0, .int .i64 0, .int .i64 0] 73 (0, 0)) := by rw [hwk]; exact heap_alloc_new _ _
          rw [← hwk]
          clear hwk
          have TK := TJ.later hbwk
          have MK := below_block hbwk MJ
          have XK := below_block hbwk XJ
          have lmk := (Array.getElem?_eq_some_iff.1 MJ).1
          have lxk := (Array.getElem?_eq_some_iff.1 XJ).1
          have ltk := TJ.lt
          obtain ⟨⟨x0, x1, x2, x3⟩, _, _, _, _⟩ := block4 XK
          obtain ⟨⟨j0, j1, j2, j3⟩, f0, f1, f2, f3⟩ := block4 xwk
          obtain ⟨k0, k1, k2, _, _, _⟩ := block3 TK.b
          go_upto_region 19 with (fail)
          obtain ⟨wm, hwm⟩ : ∃ wm, wm = (((wk.setCell ⟨wj.heap.size, 0, none⟩ (.int .i64 x)).setCell ⟨wj.heap.size, 1, none⟩ (.int .i64 y)).setCell ⟨wj.heap.size, 2, none⟩ (.int .i64 ((W2 : Int) - x - p3))).setCell ⟨wj.heap.size, 3, none⟩ (.int .i64 ((H2 : Int) - y - q3)) := ⟨_, rfl⟩
          have TM := Lib.hid (show Sh4 a1 b1 s1 n1 c1 W2 H2 (some ⟨g2, o2, none⟩) (W2 * H2) c2 m n w wm by rw [hwm]; exact TK.far4 ltk)
          have MM := (show wm.heap[wf.heap.size]? = wk.heap[wf.heap.size]? by rw [hwm, heap_far4 (by omega)]).trans MK
          have XM : wm.heap[wj.heap.size]? = some (.cells #[.int .i64 x, .int .i64 y, .int .i64 ((W2 : Int) - x - p3), .int .i64 ((H2 : Int) - y - q3)] 73 (0, 0)) := by rw [hwm]; exact set_agg4 xwk
          rw [← hwm]
          clear hwm hbwk xwk TK MK XK TJ MJ XJ lmk lxk ltk x0 x1 x2 x3 j0 j1 j2 j3 f0 f1 f2 f3 k0 k1 k2
          obtain ⟨⟨o0, o1', o2', o3⟩, _, _, _, _⟩ := block4 MM
          obtain ⟨⟨j0, j1, j2, j3⟩, _, _, _, _⟩ := block4 XM
          obtain ⟨k0, k1, k2, _, _, _⟩ := block3 TM.out.b
          obtain ⟨m0, _⟩ := block1 TM.out.m
          obtain ⟨u0, _⟩ := block1 TM.out.n
          clear MM XM
          go_wp2_with fail
          by_cases hmn : sizeErr m n = 0
          · obtain ⟨⟨mn1, mn2, mn3, mn4⟩, mn5, mn6⟩ := sizeErr_zero hmn
            obtain ⟨m', rfl⟩ := Int.eq_ofNat_of_zero_le (show 0 ≤ m by omega)
            obtain ⟨n', rfl⟩ := Int.eq_ofNat_of_zero_le (show 0 ≤ n by omega)
            have HMN := Lib.hid hmn
            have HMNB := Lib.hid (show m' * n' ≤ 100000000 by rw [← Int.natCast_mul] at mn6; omega)
            have HW3 := Lib.hid (show orI (pageErr W2 H2 (W2 * H2)) (orI (sizeErr m' n') 0) = 0 by rw [HE2.out, hmn]; rfl)
            clear hmn mn5 mn6
            refine (centre_ok W2 H2 g2 o2 c2 m' n' z wm HS2.out HMN.out HI.out (fun j hj => cell_later TM.out.l (HC2.out j hj)) (isBools_later HB.out TM.out.l)).mono ?_
            rintro e wn ⟨cx, cy, cp, cq, gc, cc, hcb, rfl, hzc, hbn⟩
            have HCB := Lib.hid hcb
            have HZC := Lib.hid hzc
            have TN := TM.out.later hbn
            clear hbn TM u0 k0 k1 k2 m0 hcb hzc
            go_upto_region 22 with (fail)
            obtain ⟨wo, hwo⟩ : ∃ wo, wo = wn.alloc (.cells #[.int .i64 m', .int .i64 n', .slice (some ⟨gc, 0, none⟩) (m' * n') cc] 40) := ⟨_, rfl⟩
            have hbwo : Below wn.heap.size wn wo := by rw [hwo]; exact new_below _ _
            have xwo : wo.heap[wn.heap.size]? = some (.cells #[.int .i64 m', .int .i64 n', .slice (some ⟨gc, 0, none⟩) (m' * n') cc] 40 (0, 0)) := by rw [hwo]; exact heap_alloc_new _ _
            rw [← hwo]
            clear hwo
            have TO := Lib.hid (TN.later hbwo)
            have CO := Lib.hid xwo
            have ZO := Lib.hid (fun j hj => cell_later hbwo (HZC.out j hj))
            obtain ⟨k0, k1, k2, _, _, _⟩ := block3 TO.out.b
            obtain ⟨m0, _⟩ := block1 TO.out.m
            obtain ⟨u0, _⟩ := block1 TO.out.n
            clear hbwo xwo TN HZC
            go_region_held3 (fun w' => w'.cell? ⟨w.heap.size + 1, 0, none⟩ = some (.int .i64 W2) ∧ w'.cell? ⟨w.heap.size + 1, 1, none⟩ = some (.int .i64 H2) ∧ w'.cell? ⟨w.heap.size + 1, 2, none⟩ = some (.slice (some ⟨g2, o2, none⟩) (W2 * H2) c2) ∧
                w'.cell? ⟨w.heap.size + 1 + 1, 0, none⟩ = some (.int .i64 m') ∧ w'.cell? ⟨w.heap.size + 1 + 1 + 1, 0, none⟩ = some (.int .i64 n'))
              (first | (go_keep; done) | (go_split_ands; exact ⟨cell_later hbE (by assumption), cell_later hbE (by assumption), cell_later hbE (by assumption), cell_later hbE (by assumption), cell_later hbE (by assumption)⟩) | (go_split_ands; exact ⟨cell_later hbS (by assumption), cell_later hbS (by assumption), cell_later hbS (by assumption), cell_later hbS (by assumption), cell_later hbS (by assumption)⟩))
              ((first | (go_at_call 27; ((with_reducible refine (bitsError_any W2 H2 (some ⟨g2, o2, none⟩) (W2 * H2) c2 _).mono ?_); rintro e wE ⟨rfl, hbE⟩)) | (go_at_call 48; ((with_reducible refine (sizeError_any m' n' _).mono ?_); rintro e ws ⟨rfl, hbS⟩)) | (go_at_call 11; refine (first3_new _ _ _ _).mono ?_; rintro e w' ⟨rfl, rfl⟩)))
            rw [HW3.out]
            have hbT := below_alloc (below_step (below_step (Below.refl _ _).drew hbE) hbS) (.cells #[.int .i64 (pageErr W2 H2 (W2 * H2)), .int .i64 (sizeErr m' n'), .int .i64 0] 27)
            have TQ := TO.out.later hbT
            have CQ := below_block hbT CO.out
            have ZQ := fun j hj => cell_later hbT (ZO.out j hj)
            obtain ⟨wq, hwq⟩ : ∃ wq, wq = ws.alloc (.cells #[.int .i64 (pageErr W2 H2 (W2 * H2)), .int .i64 (sizeErr m' n'), .int .i64 0] 27) := ⟨_, rfl⟩
            rw [← hwq] at TQ CQ ZQ ⊢
            have HTQ := Lib.hid TQ
            have HZQ := Lib.hid ZQ
            clear hwq hbE hbS k0 k1 k2 m0 u0 TO CO ZO ZQ hbT
            obtain ⟨c0, cc1, cc2, _, _, _⟩ := block3 CQ
            obtain ⟨k0, k1, k2, _, _, _⟩ := block3 TQ.b
            obtain ⟨m0, _⟩ := block1 TQ.m
            obtain ⟨u0, _⟩ := block1 TQ.n
            clear CQ TQ
            go_wp2_with fail
            refine (small_any m' n' wq HMN.out).mono ?_
            rintro e w' ⟨qs, rfl, rfl⟩
            cases qs
            · go_wp2_with fail
              go_ret
              exact ⟨rfl, HTQ.out.l⟩
            · go_wp2_with fail
              refine (bitsIs_ok m' n' gc 0 (m' * n') cc 50 _ (cenZ m' n' cp cq cx cy W2 z) wq HMNB.out (Go.Proofs.enters_of Try.func50 (by kernel_rfl) rfl) HZQ.out (fun wx hbx => sheets1_any W2 H2 g2 o2 c2 m' n' cp cq cx cy _ _ _ z wx HS2.out HMN.out HI.out HCB.out (cell_later hbx k0) (cell_later hbx k1) (cell_later hbx k2) (cell_later hbx m0) (cell_later hbx u0) (fun j hj => cell_later hbx (cell_later HTQ.out.l (HC2.out j hj))))).mono ?_
              rintro e wr ⟨rfl, hbr⟩
              have G := Lib.hid (HTQ.out.later hbr).l
              clear hbr
              go_wp2_with fail
              go_ret
              exact ⟨rfl, G.out⟩
          · have hce : cenErr (pageErr W2 H2 (W2 * H2)) (sizeErr m n) (anyInk z (W2 * H2)) = sizeErr m n := by unfold cenErr; rw [if_pos HE2.out, if_neg hmn]
            have HCE := Lib.hid (show cenErr (pageErr W2 H2 (W2 * H2)) (sizeErr m n) (anyInk z (W2 * H2)) ≠ 0 by rw [hce]; exact hmn)
            have HW3 := Lib.hid (show orI (pageErr W2 H2 (W2 * H2)) (orI (sizeErr m n) 0) = cenErr (pageErr W2 H2 (W2 * H2)) (sizeErr m n) (anyInk z (W2 * H2)) by rw [hce, HE2.out]; unfold orI; simp [hmn])
            clear hce hmn
            refine (centre_bad W2 H2 m n (some ⟨g2, o2, none⟩) (W2 * H2) c2 z wm (isBools_later HB.out TM.out.l) HCE.out).mono ?_
            rintro e wn ⟨rfl, hbn⟩
            obtain ⟨Q3, hQ3⟩ : ∃ Q3, Q3 = cenErr (pageErr W2 H2 (W2 * H2)) (sizeErr m n) (anyInk z (W2 * H2)) := ⟨_, rfl⟩
            rw [← hQ3] at HCE HW3 ⊢
            have t5 : (Q3 == 0) = false := by simpa using HCE.out
            have TN := TM.out.later hbn
            clear hbn TM u0 k0 k1 k2 m0 hQ3
            go_upto_region 22 with (fail)
            obtain ⟨wo, hwo⟩ : ∃ wo, wo = wn.alloc (.cells #[.int .i64 0, .int .i64 0, .slice none 0 0] 40) := ⟨_, rfl⟩
            have hbwo : Below wn.heap.size wn wo := by rw [hwo]; exact new_below _ _
            have xwo : wo.heap[wn.heap.size]? = some (.cells #[.int .i64 0, .int .i64 0, .slice none 0 0] 40 (0, 0)) := by rw [hwo]; exact heap_alloc_new _ _
            rw [← hwo]
            clear hwo
            have TO := Lib.hid (TN.later hbwo)
            have CO := Lib.hid xwo
            obtain ⟨k0, k1, k2, _, _, _⟩ := block3 TO.out.b
            obtain ⟨m0, _⟩ := block1 TO.out.m
            obtain ⟨u0, _⟩ := block1 TO.out.n
            clear hbwo xwo TN
            go_region_held3 (fun w' => w'.cell? ⟨w.heap.size + 1, 0, none⟩ = some (.int .i64 W2) ∧ w'.cell? ⟨w.heap.size + 1, 1, none⟩ = some (.int .i64 H2) ∧ w'.cell? ⟨w.heap.size + 1, 2, none⟩ = some (.slice (some ⟨g2, o2, none⟩) (W2 * H2) c2) ∧
                w'.cell? ⟨w.heap.size + 1 + 1, 0, none⟩ = some (.int .i64 m) ∧ w'.cell? ⟨w.heap.size + 1 + 1 + 1, 0, none⟩ = some (.int .i64 n))
              (first | (go_keep; done) | (go_split_ands; exact ⟨cell_later hbE (by assumption), cell_later hbE (by assumption), cell_later hbE (by assumption), cell_later hbE (by assumption), cell_later hbE (by assumption)⟩) | (go_split_ands; exact ⟨cell_later hbS (by assumption), cell_later hbS (by assumption), cell_later hbS (by assumption), cell_later hbS (by assumption), cell_later hbS (by assumption)⟩))
              ((first | (go_at_call 27; ((with_reducible refine (bitsError_any W2 H2 (some ⟨g2, o2, none⟩) (W2 * H2) c2 _).mono ?_); rintro e wE ⟨rfl, hbE⟩)) | (go_at_call 48; ((with_reducible refine (sizeError_any m n _).mono ?_); rintro e ws ⟨rfl, hbS⟩)) | (go_at_call 11; refine (first3_new _ _ _ _).mono ?_; rintro e w' ⟨rfl, rfl⟩)))
            rw [HW3.out]
            have hbT := below_alloc (below_step (below_step (Below.refl _ _).drew hbE) hbS) (.cells #[.int .i64 (pageErr W2 H2 (W2 * H2)), .int .i64 (sizeErr m n), .int .i64 0] 27)
            have TQ := TO.out.later hbT
            have CQ := below_block hbT CO.out
            obtain ⟨wq, hwq⟩ : ∃ wq, wq = ws.alloc (.cells #[.int .i64 (pageErr W2 H2 (W2 * H2)), .int .i64 (sizeErr m n), .int .i64 0] 27) := ⟨_, rfl⟩
            rw [← hwq] at TQ CQ ⊢
            obtain ⟨c0, cc1, cc2, _, _, _⟩ := block3 CQ
            clear hwq hbT hbE hbS k0 k1 k2 m0 u0 TO CO CQ
            go_wp2_with fail
            refine (bitsIs_err Q3 _ wq HCE.out).mono ?_
            rintro e wr ⟨rfl, hbr⟩
            have G := Lib.hid (TQ.later hbr).l
            clear hbr TQ
            go_wp2_with fail
            go_ret
            exact ⟨rfl, G.out⟩
      · have hbn : bndErr (pageErr a2 b2 n2) (anyInk z n2) = pageErr a2 b2 n2 := by unfold bndErr; rw [if_neg hE2]
        have hce : cenErr (pageErr a2 b2 n2) (sizeErr m n) (anyInk z n2) = pageErr a2 b2 n2 := by unfold cenErr; rw [if_neg hE2]
        have HCE := Lib.hid (show cenErr (pageErr a2 b2 n2) (sizeErr m n) (anyInk z n2) ≠ 0 by rw [hce]; exact hE2)
        have HW3 := Lib.hid (show orI (pageErr a2 b2 n2) (orI (sizeErr m n) (pageErr a2 b2 n2)) = cenErr (pageErr a2 b2 n2) (sizeErr m n) (anyInk z n2) by rw [hce]; exact want_bad hE2 _)
        have t6 : (pageErr a2 b2 n2 == 0) = false := by simpa using hE2
        have t7 : (pageErr a2 b2 n2 != pageErr a2 b2 n2) = false := by simp
        have HM := Lib.hid (margins_bad a2 b2 s2 n2 c2 z we (isBools_later HB.out TE.out.l) (by rw [hbn]; exact hE2))
        rw [hbn] at HM
        clear hE2 hbn hce
        go_wp2_with fail
        refine HM.out.mono ?_
        rintro e wf ⟨rfl, hbf⟩
        have TF := TE.out.later hbf
        clear hbf HM XE
        go_upto_region 11 with (fail)
        obtain ⟨wg, hwg⟩ : ∃ wg, wg = wf.alloc (.cells #[.int .i64 0, .int .i64 0, .int .i64 0, .int .i64 0] 73) := ⟨_, rfl⟩
        have hbwg : Below wf.heap.size wf wg := by rw [hwg]; exact new_below _ _
        have xwg : wg.heap[wf.heap.size]? = some (.cells #[.int .i64 0, .int .i64 0, .int .i64 0, .int .i64 0] 73 (0, 0)) := by rw [hwg]; exact heap_alloc_new _ _
        rw [← hwg]
        clear hwg
        have TG := TF.later hbwg
        have MG := xwg
        clear hbwg xwg TF k0 k1 k2
        obtain ⟨k0, k1, k2, _, _, _⟩ := block3 TG.b
        go_wp2_with fail
        refine (bitsError_any a2 b2 s2 n2 c2 wg).mono ?_
        rintro e wh ⟨rfl, hbh⟩
        have TH := TG.later hbh
        have MH := below_block hbh MG
        clear hbh TG MG k0 k1 k2
        go_upto_region 17 with (fail)
        obtain ⟨wm, hwm⟩ : ∃ wm, wm = wh.alloc (.cells #[.int .i64 0, .int .i64 0, .int .i64 0, .int .i64 0] 73) := ⟨_, rfl⟩
        have hbwm : Below wh.heap.size wh wm := by rw [hwm]; exact new_below _ _
        have xwm : wm.heap[wh.heap.size]? = some (.cells #[.int .i64 0, .int .i64 0, .int .i64 0, .int .i64 0] 73 (0, 0)) := by rw [hwm]; exact heap_alloc_new _ _
        rw [← hwm]
        clear hwm
        have TM0 := Lib.hid (TH.later hbwm)
        obtain ⟨⟨o0, o1, o2, o3⟩, _, _, _, _⟩ := block4 (below_block hbwm MH)
        obtain ⟨⟨j0, j1, j2, j3⟩, _, _, _, _⟩ := block4 xwm
        obtain ⟨k0, k1, k2, _, _, _⟩ := block3 TM0.out.b
        obtain ⟨m0, _⟩ := block1 TM0.out.m
        obtain ⟨u0, _⟩ := block1 TM0.out.n
        have TM := TM0
        clear hbwm xwm TH MH TM0
        go_wp2_with fail
        refine (centre_bad a2 b2 m n s2 n2 c2 z wm (isBools_later HB.out TM.out.l) HCE.out).mono ?_
        rintro e wn ⟨rfl, hbn⟩
        obtain ⟨Q3, hQ3⟩ : ∃ Q3, Q3 = cenErr (pageErr a2 b2 n2) (sizeErr m n) (anyInk z n2) := ⟨_, rfl⟩
        rw [← hQ3] at HCE HW3 ⊢
        have t5 : (Q3 == 0) = false := by simpa using HCE.out
        have TN := TM.out.later hbn
        clear hbn TM u0 k0 k1 k2 m0 hQ3
        go_upto_region 22 with (fail)
        obtain ⟨wo, hwo⟩ : ∃ wo, wo = wn.alloc (.cells #[.int .i64 0, .int .i64 0, .slice none 0 0] 40) := ⟨_, rfl⟩
        have hbwo : Below wn.heap.size wn wo := by rw [hwo]; exact new_below _ _
        have xwo : wo.heap[wn.heap.size]? = some (.cells #[.int .i64 0, .int .i64 0, .slice none 0 0] 40 (0, 0)) := by rw [hwo]; exact heap_alloc_new _ _
        rw [← hwo]
        clear hwo
        have TO := Lib.hid (TN.later hbwo)
        have CO := Lib.hid xwo
        obtain ⟨k0, k1, k2, _, _, _⟩ := block3 TO.out.b
        obtain ⟨m0, _⟩ := block1 TO.out.m
        obtain ⟨u0, _⟩ := block1 TO.out.n
        clear hbwo xwo TN
        go_region_held3 (fun w' => w'.cell? ⟨w.heap.size + 1, 0, none⟩ = some (.int .i64 a2) ∧ w'.cell? ⟨w.heap.size + 1, 1, none⟩ = some (.int .i64 b2) ∧ w'.cell? ⟨w.heap.size + 1, 2, none⟩ = some (.slice s2 n2 c2) ∧
            w'.cell? ⟨w.heap.size + 1 + 1, 0, none⟩ = some (.int .i64 m) ∧ w'.cell? ⟨w.heap.size + 1 + 1 + 1, 0, none⟩ = some (.int .i64 n))
          (first | (go_keep; done) | (go_split_ands; exact ⟨cell_later hbE (by assumption), cell_later hbE (by assumption), cell_later hbE (by assumption), cell_later hbE (by assumption), cell_later hbE (by assumption)⟩) | (go_split_ands; exact ⟨cell_later hbS (by assumption), cell_later hbS (by assumption), cell_later hbS (by assumption), cell_later hbS (by assumption), cell_later hbS (by assumption)⟩))
          ((first | (go_at_call 27; ((with_reducible refine (bitsError_any a2 b2 s2 n2 c2 _).mono ?_); rintro e wE ⟨rfl, hbE⟩)) | (go_at_call 48; ((with_reducible refine (sizeError_any m n _).mono ?_); rintro e ws ⟨rfl, hbS⟩)) | (go_at_call 11; refine (first3_new _ _ _ _).mono ?_; rintro e w' ⟨rfl, rfl⟩)))
        rw [HW3.out]
        have hbT := below_alloc (below_step (below_step (Below.refl _ _).drew hbE) hbS) (.cells #[.int .i64 (pageErr a2 b2 n2), .int .i64 (sizeErr m n), .int .i64 (pageErr a2 b2 n2)] 27)
        have TQ := TO.out.later hbT
        have CQ := below_block hbT CO.out
        obtain ⟨wq, hwq⟩ : ∃ wq, wq = ws.alloc (.cells #[.int .i64 (pageErr a2 b2 n2), .int .i64 (sizeErr m n), .int .i64 (pageErr a2 b2 n2)] 27) := ⟨_, rfl⟩
        rw [← hwq] at TQ CQ ⊢
        obtain ⟨c0, cc1, cc2, _, _, _⟩ := block3 CQ
        clear hwq hbT hbE hbS k0 k1 k2 m0 u0 TO CO CQ
        go_wp2_with fail
        refine (bitsIs_err Q3 _ wq HCE.out).mono ?_
        rintro e wr ⟨rfl, hbr⟩
        have G := Lib.hid (TQ.later hbr).l
        clear hbr TQ
        go_wp2_with fail
        go_ret
        exact ⟨rfl, G.out⟩

end Go.Proofs.Ytofcojcfcpfdmaa
