/-
  The reference's Level; slices.Min and slices.Max of bytes.
-/
import Derived.Test.YtejhmobpepllcaaLev
import Derived.Deep.QuietTactic
import Derived.BigQuiet
namespace Go.Proofs.Ytejhmobpepllcaa
open Go.RowKit
set_option linter.unusedSimpArgs false
set_option linter.unusedVariables false

theorem exists_min (z : Nat → Int) (n : Nat) : ∃ m, IsMin z (n + 1) m := by
  induction n with
  | zero => exact ⟨_, isMin_one z⟩
  | succ n ih => obtain ⟨m, h⟩ := ih; exact ⟨_, h.step⟩
theorem exists_max (z : Nat → Int) (n : Nat) : ∃ m, IsMax z (n + 1) m := by
  induction n with
  | zero => exact ⟨_, isMax_one z⟩
  | succ n ih => obtain ⟨m, h⟩ := ih; exact ⟨_, h.step⟩

set_option maxRecDepth 100000 in
theorem minB_any (z : Nat → Int) (m : Int) (g o n c : Nat) (w : World) (hz : ∀ j, 0 ≤ z j ∧ z j ≤ 255) (hn : 1 ≤ n) (hn2 : n ≤ 1048576) (hm : IsMin z n m) (hp : ∀ j, j < n → w.cell? ⟨g, o + j, none⟩ = some (.int .u8 (z j))) :
    Calls Try.prog 140 #[.slice (some ⟨g, o, none⟩) n c] w fun e w' => e = .returned (.int .u8 m) ∧ w = w' := by
  have HC := Lib.hid hp
  have HZ := Lib.hid hz
  have HM := Lib.hid hm
  have h0 := hp 0 hn
  rw [Nat.add_zero] at h0
  have HO := Lib.hid (isMin_one z)
  have hb0 := hz 0
  obtain ⟨q0, hq0⟩ : ∃ q, q = z 0 := ⟨_, rfl⟩
  rw [← hq0] at h0 HO hb0
  clear hp hz hm hq0
  go_enter Try.func140, Try.ntmps140
  go_wp2_with fail
  go_loop [3, 4] (fun s i => ∃ (k : Nat) (mv : Int), 1 ≤ k ∧ k ≤ n ∧ i = .int .i64 k ∧ s = .int .u8 mv ∧ 0 ≤ mv ∧ mv ≤ 255 ∧ Hid (IsMin z k mv)) (fun _ i => n - (intOf i).toNat)
  case atStart => exact ⟨1, q0, by omega, hn, rfl, rfl, hb0.1, hb0.2, HO⟩
  case round =>
    obtain ⟨k, mv, hk1, hk2, rfl, rfl, v0, v1, hr⟩ := hrel
    by_cases hlt : k < n
    · have hck := HC.out k hlt
      have hqb := HZ.out k
      have HS := Lib.hid hr.out.step
      obtain ⟨q, hq⟩ : ∃ q, q = z k := ⟨_, rfl⟩
      rw [← hq] at hck hqb HS
      obtain ⟨x, hx⟩ : ∃ x, min mv q = x := ⟨_, rfl⟩
      rw [hx] at HS
      have hxb : 0 ≤ x ∧ x ≤ 255 := by omega
      clear hq hr
      go_wp2_with fail
      go_round
      case rel => exact ⟨k + 1, x, by omega, by omega, by go_num, rfl, hxb.1, hxb.2, HS⟩
      case measure => simp [intOf]; omega
    · obtain rfl : k = n := by omega
      have E := Lib.hid (hr.out.one HM.out)
      go_wp2_with fail
      go_ret
      exact ⟨by rw [E.out]; rfl, rfl⟩

set_option maxRecDepth 100000 in
theorem maxB_any (z : Nat → Int) (m : Int) (g o n c : Nat) (w : World) (hz : ∀ j, 0 ≤ z j ∧ z j ≤ 255) (hn : 1 ≤ n) (hn2 : n ≤ 1048576) (hm : IsMax z n m) (hp : ∀ j, j < n → w.cell? ⟨g, o + j, none⟩ = some (.int .u8 (z j))) :
    Calls Try.prog 141 #[.slice (some ⟨g, o, none⟩) n c] w fun e w' => e = .returned (.int .u8 m) ∧ w = w' := by
  have HC := Lib.hid hp
  have HZ := Lib.hid hz
  have HM := Lib.hid hm
  have h0 := hp 0 hn
  rw [Nat.add_zero] at h0
  have HO := Lib.hid (isMax_one z)
  have hb0 := hz 0
  obtain ⟨q0, hq0⟩ : ∃ q, q = z 0 := ⟨_, rfl⟩
  rw [← hq0] at h0 HO hb0
  clear hp hz hm hq0
  go_enter Try.func141, Try.ntmps141
  go_wp2_with fail
  go_loop [3, 4] (fun s i => ∃ (k : Nat) (mv : Int), 1 ≤ k ∧ k ≤ n ∧ i = .int .i64 k ∧ s = .int .u8 mv ∧ 0 ≤ mv ∧ mv ≤ 255 ∧ Hid (IsMax z k mv)) (fun _ i => n - (intOf i).toNat)
  case atStart => exact ⟨1, q0, by omega, hn, rfl, rfl, hb0.1, hb0.2, HO⟩
  case round =>
    obtain ⟨k, mv, hk1, hk2, rfl, rfl, v0, v1, hr⟩ := hrel
    by_cases hlt : k < n
    · have hck := HC.out k hlt
      have hqb := HZ.out k
      have HS := Lib.hid hr.out.step
      obtain ⟨q, hq⟩ : ∃ q, q = z k := ⟨_, rfl⟩
      rw [← hq] at hck hqb HS
      obtain ⟨x, hx⟩ : ∃ x, max mv q = x := ⟨_, rfl⟩
      rw [hx] at HS
      have hxb : 0 ≤ x ∧ x ≤ 255 := by omega
      clear hq hr
      go_wp2_with fail
      go_round
      case rel => exact ⟨k + 1, x, by omega, by omega, by go_num, rfl, hxb.1, hxb.2, HS⟩
      case measure => simp [intOf]; omega
    · obtain rfl : k = n := by omega
      have E := Lib.hid (hr.out.one HM.out)
      go_wp2_with fail
      go_ret
      exact ⟨by rw [E.out]; rfl, rfl⟩

theorem block2 {w : World} {b : Nat} {x y : Value} {t : TypeId} (h : w.heap[b]? = some (.cells #[x, y] t (0, 0))) :
    w.cell? ⟨b, 0, none⟩ = some x ∧ w.cell? ⟨b, 1, none⟩ = some y ∧ w.frozen? ⟨b, 0, none⟩ = false ∧ w.frozen? ⟨b, 1, none⟩ = false :=
  ⟨by rw [cell_of_row w b 0 _ t (0, 0) h]; rfl, by rw [cell_of_row w b 1 _ t (0, 0) h]; rfl, frozen_of_row w b 0 _ t h, frozen_of_row w b 1 _ t h⟩

/-- Two pairs in memory: how many values were met below and from the level on, and their sums. -/
def Pairs (w : World) (bn bs : Nat) (n0 n1 s0 s1 : Int) : Prop :=
  w.heap[bn]? = some (.cells #[.int .i64 n0, .int .i64 n1] 134 (0, 0)) ∧ w.heap[bs]? = some (.cells #[.int .i64 s0, .int .i64 s1] 134 (0, 0))
theorem Pairs.low {w : World} {bn bs : Nat} {n0 n1 s0 s1 : Int} (h : Pairs w bn bs n0 n1 s0 s1) (hne : bn ≠ bs) (a b : Int) : Pairs ((w.setCell ⟨bn, 0, none⟩ (.int .i64 a)).setCell ⟨bs, 0, none⟩ (.int .i64 b)) bn bs a n1 b s1 := by
  refine ⟨?_, ?_⟩
  · rw [Below.heap_setCell _ _ _ _ (by simpa using hne)]
    simpa using heap_setCell_same w bn 0 _ 134 (.int .i64 a) h.1
  · have := heap_setCell_same (w.setCell ⟨bn, 0, none⟩ (.int .i64 a)) bs 0 #[.int .i64 s0, .int .i64 s1] 134 (.int .i64 b) (by rw [Below.heap_setCell _ _ _ _ (by simpa using hne.symm)]; exact h.2)
    simpa using this
theorem Pairs.high {w : World} {bn bs : Nat} {n0 n1 s0 s1 : Int} (h : Pairs w bn bs n0 n1 s0 s1) (hne : bn ≠ bs) (a b : Int) : Pairs ((w.setCell ⟨bn, 1, none⟩ (.int .i64 a)).setCell ⟨bs, 1, none⟩ (.int .i64 b)) bn bs n0 a s0 b := by
  refine ⟨?_, ?_⟩
  · rw [Below.heap_setCell _ _ _ _ (by simpa using hne)]
    simpa using heap_setCell_same w bn 1 _ 134 (.int .i64 a) h.1
  · have := heap_setCell_same (w.setCell ⟨bn, 1, none⟩ (.int .i64 a)) bs 1 #[.int .i64 s0, .int .i64 s1] 134 (.int .i64 b) (by rw [Below.heap_setCell _ _ _ _ (by simpa using hne.symm)]; exact h.2)
    simpa using this

theorem cnt_low {z : Nat → Int} {T : Int} {j : Nat} (hz : 0 ≤ z j ∧ z j ≤ 255) (h : z j < T) :
    cntIn z 0 T (j + 1) = cntIn z 0 T j + 1 ∧ cntIn z T 256 (j + 1) = cntIn z T 256 j ∧ sumIn z 0 T (j + 1) = sumIn z 0 T j + z j ∧ sumIn z T 256 (j + 1) = sumIn z T 256 j := by
  simp only [cntIn, sumIn]
  rw [if_pos (by omega), if_neg (by omega), if_pos (by omega), if_neg (by omega)]
  simp
theorem cnt_high {z : Nat → Int} {T : Int} {j : Nat} (hz : 0 ≤ z j ∧ z j ≤ 255) (h : T ≤ z j) :
    cntIn z 0 T (j + 1) = cntIn z 0 T j ∧ cntIn z T 256 (j + 1) = cntIn z T 256 j + 1 ∧ sumIn z 0 T (j + 1) = sumIn z 0 T j ∧ sumIn z T 256 (j + 1) = sumIn z T 256 j + z j := by
  simp only [cntIn, sumIn]
  rw [if_neg (by omega), if_pos (by omega), if_neg (by omega), if_pos (by omega)]
  simp

set_option maxHeartbeats 2000000 in
set_option maxRecDepth 100000 in
theorem levelR_any (W H mn mx : Int) (g o n c : Nat) (z : Nat → Int) (w : World) (hn : 1 ≤ n) (hn2 : n ≤ 1048576) (hzb : ∀ j, 0 ≤ z j ∧ z j ≤ 255) (hmn : IsMin z n mn) (hmx : IsMax z n mx)
    (hp : ∀ j, j < n → w.cell? ⟨g, o + j, none⟩ = some (.int .u8 (z j))) :
    Calls Try.prog 81 #[.agg #[.int .i64 W, .int .i64 H, .slice (some ⟨g, o, none⟩) n c]] w fun e w' => e = .returned (.int .i64 (levelGo z n 100 ((mn + mx + 1) / 2))) ∧ Below w.heap.size w w' := by
  have bmn : 0 ≤ mn ∧ mn ≤ 255 := by obtain ⟨j, _, e⟩ := hmn.1; have := hzb j; omega
  have bmx : 0 ≤ mx ∧ mx ≤ 255 := by obtain ⟨j, _, e⟩ := hmx.1; have := hzb j; omega
  obtain ⟨T0, hT0⟩ : ∃ T0 : Nat, (mn + mx + 1) / 2 = (T0 : Int) := Int.eq_ofNat_of_zero_le (by omega)
  have hT1 : T0 ≤ 255 := by omega
  have HZ := Lib.hid hzb
  have HC := Lib.hid hp
  have B1 := new_below w (.cells #[.int .i64 W, .int .i64 H, .slice (some ⟨g, o, none⟩) n c] 27)
  have HMN := Lib.hid (fun q => minB_any z mn g o n c ((w.alloc (.cells #[.int .i64 W, .int .i64 H, .slice (some ⟨g, o, none⟩) n c] 27)).drewN q) hzb hn hn2 hmn (fun j hj => cell_later (below_drewN B1 q) (hp j hj)))
  have HMX := Lib.hid (fun q => maxB_any z mx g o n c ((w.alloc (.cells #[.int .i64 W, .int .i64 H, .slice (some ⟨g, o, none⟩) n c] 27)).drewN q) hzb hn hn2 hmx (fun j hj => cell_later (below_drewN B1 q) (hp j hj)))
  clear hzb hp hmn hmx B1
  go_enter Try.func81, Try.ntmps81
  go_wp2_with fail
  go_quiet ((first | (go_at_call 140; (with_reducible refine (HMN.out _).mono ?_); rintro e w1 ⟨rfl, rfl⟩; exact ⟨rfl, _, rfl⟩) | (go_at_call 141; (with_reducible refine (HMX.out _).mono ?_); rintro e w1 ⟨rfl, rfl⟩; exact ⟨rfl, _, rfl⟩)))
  rw [hT0]
  have HT0 := Lib.hid hT0
  clear hT0
  obtain ⟨w1, hw1⟩ : ∃ w1, w1 = (w.alloc (.cells #[.int .i64 W, .int .i64 H, .slice (some ⟨g, o, none⟩) n c] 27)).drewN nq := ⟨_, rfl⟩
  have B1 : Below w.heap.size w w1 := by rw [hw1]; exact below_drewN (new_below _ _) _
  have k2 : w1.cell? ⟨w.heap.size, 2, none⟩ = some (.slice (some ⟨g, o, none⟩) n c) := by rw [hw1]; go_simp
  rw [← hw1]
  clear hw1 HMN HMX bmn bmx
  have HB1 := Lib.hid B1
  have HC1 := Lib.hid (fun j (hj : j < n) => cell_later B1 (HC.out j hj))
  clear B1
  go_wp2_with fail
  go_loopw [3, 21] (fun l i wr => ∃ k T : Nat, k ≤ 100 ∧ i = .int .i64 k ∧ l = .int .i64 T ∧ T ≤ 255 ∧ Hid (levelGo z n (100 - k) (T : Int) = levelGo z n 100 (T0 : Int)) ∧ Below w1.heap.size w1 wr) (fun _ i _ => 100 - (intOf i).toNat)
  case atStart => exact ⟨0, T0, by omega, rfl, rfl, hT1, Lib.hid rfl, Below.refl _ _⟩
  case round =>
    obtain ⟨k, T, hk, rfl, rfl, hT, hg, hb⟩ := hrel
    by_cases hlt : k < 100
    · have hk1 : 100 - k = (99 - k) + 1 := by omega
      have HG := Lib.hid (show levelGo z n ((99 - k) + 1) (T : Int) = levelGo z n 100 (T0 : Int) by rw [← hk1]; exact hg.out)
      have c2 := cell_later hb k2
      have l2 := World.block_lt_of_cell? _ _ c2
      simp only at l2
      have HB := Lib.hid hb
      obtain ⟨wo, rfl⟩ : ∃ wo : World, wo = wr := ⟨_, rfl⟩
      clear hk1 hg hb
      go_wp2_with fail
      obtain ⟨w2, hw2⟩ : ∃ w2, w2 = (wo.alloc (.cells #[.int .i64 0, .int .i64 0] 134)).alloc (.cells #[.int .i64 0, .int .i64 0] 134) := ⟨_, rfl⟩
      have B2 : Below wo.heap.size wo w2 := by rw [hw2]; exact below_alloc (new_below _ _) _
      have P2 : Pairs w2 wo.heap.size (wo.heap.size + 1) 0 0 0 0 := by
        rw [hw2]
        refine ⟨?_, ?_⟩
        · rw [Below.heap_alloc _ _ _ (by simp)]; exact heap_alloc_new _ _
        · simpa using heap_alloc_new (wo.alloc (.cells #[.int .i64 0, .int .i64 0] 134)) (.cells #[.int .i64 0, .int .i64 0] 134)
      have c2' := cell_later B2 c2
      have l3 : w.heap.size < w2.heap.size := by have := B2.size; omega
      rw [← hw2]
      clear hw2 c2
      have HB2 := Lib.hid B2
      have HC2 := Lib.hid (fun j (hj : j < n) => cell_later (below_step HB.out B2) (HC1.out j hj))
      have HL2 := Lib.hid (fun j (hj : j < n) => show g < wo.heap.size from by
        have h1 := World.block_lt_of_cell? _ _ (HC.out j hj)
        have h2 := HB1.out.size
        have h3 := HB.out.size
        simp at h1
        omega)
      have HP2 := Lib.hid P2
      clear B2 P2
      go_loopw [26] (fun i wq => ∃ (j : Nat) (n0 n1 s0 s1 : Int), j ≤ n ∧ i = .int .i64 j ∧ Pairs wq wo.heap.size (wo.heap.size + 1) n0 n1 s0 s1 ∧ Hid (n0 = cntIn z 0 T j ∧ n1 = cntIn z T 256 j ∧ s0 = sumIn z 0 T j ∧ s1 = sumIn z T 256 j) ∧ Below wo.heap.size w2 wq) (fun i _ => n - (intOf i).toNat)
      case atStart => exact ⟨0, 0, 0, 0, 0, Nat.zero_le _, rfl, HP2.out, Lib.hid ⟨rfl, rfl, rfl, rfl⟩, Below.refl _ _⟩
      case round =>
        obtain ⟨j, n0, n1, s0, s1, hj, rfl, hpr, hq, hbq⟩ := hrel
        have d2 := (hbq.cell (p := ⟨w.heap.size, 2, none⟩) l2).trans c2'
        have HBQ := Lib.hid hbq
        have HPR := Lib.hid hpr
        have nb0 := cntIn_bounds z 0 T j
        have nb1 := cntIn_bounds z T 256 j
        have sb0 := sumIn_bounds z HZ.out 0 T j
        have sb1 := sumIn_bounds z HZ.out T 256 j
        rw [← hq.out.1] at nb0 sb0
        rw [← hq.out.2.1] at nb1 sb1
        rw [← hq.out.2.2.1] at sb0
        rw [← hq.out.2.2.2] at sb1
        obtain ⟨f0, f1, f2, f3⟩ := block2 hpr.1
        obtain ⟨h0, h1, h2, h3⟩ := block2 hpr.2
        by_cases hltj : j < n
        · have hck := (hbq.cell (p := ⟨g, o + j, none⟩) (HL2.out j hltj)).trans (HC2.out j hltj)
          have hqb := HZ.out j
          clear hbq hpr
          by_cases hT' : z j < (T : Int)
          · have hst := cnt_low hqb hT'
            rw [← hq.out.1, ← hq.out.2.1, ← hq.out.2.2.1, ← hq.out.2.2.2] at hst
            obtain ⟨p, hp⟩ : ∃ p, p = z j := ⟨_, rfl⟩
            rw [← hp] at hck hqb hT' hst
            have HST := Lib.hid hst
            have HPP := Lib.hid (HPR.out.low (by omega) (n0 + 1) (s0 + p))
            clear hst hp
            go_wp2_with fail
            go_roundw
            case rel => exact ⟨j + 1, n0 + 1, n1, s0 + p, s1, by omega, by go_num, HPP.out, Lib.hid ⟨HST.out.1.symm, HST.out.2.1.symm, HST.out.2.2.1.symm, HST.out.2.2.2.symm⟩, (HBQ.out.setCell (by simp) _).setCell (by simp) _⟩
            case measure => simp [intOf]; omega
          · have hst := cnt_high hqb (by omega : (T : Int) ≤ z j)
            rw [← hq.out.1, ← hq.out.2.1, ← hq.out.2.2.1, ← hq.out.2.2.2] at hst
            obtain ⟨p, hp⟩ : ∃ p, p = z j := ⟨_, rfl⟩
            rw [← hp] at hck hqb hT' hst
            have hT2 : (T : Int) ≤ p := by omega
            have HST := Lib.hid hst
            have HPP := Lib.hid (HPR.out.high (by omega) (n1 + 1) (s1 + p))
            clear hst hp hT'
            go_wp2_with fail
            go_roundw
            case rel => exact ⟨j + 1, n0, n1 + 1, s0, s1 + p, by omega, by go_num, HPP.out, Lib.hid ⟨HST.out.1.symm, HST.out.2.1.symm, HST.out.2.2.1.symm, HST.out.2.2.2.symm⟩, (HBQ.out.setCell (by simp) _).setCell (by simp) _⟩
            case measure => simp [intOf]; omega
        · obtain rfl : j = n := by omega
          clear hbq hpr
          by_cases e0 : n0 = 0
          · subst e0
            have hres := Lib.hid ((levelGo_stop (k := 99 - k) (.inl hq.out.1.symm)).symm.trans HG.out)
            go_wp2_with fail
            go_ret
            exact ⟨by rw [HT0.out, ← hres.out]; rfl, (below_step (below_step HB1.out HB.out) HB2.out).trans (HBQ.out.mono (by have := HB1.out.size; have := HB.out.size; omega))⟩
          · have e0' : (n0 == 0) = false := by simpa using e0
            have g0 : 1 ≤ n0 := by omega
            by_cases e1 : n1 = 0
            · subst e1
              have hres := Lib.hid ((levelGo_stop (k := 99 - k) (.inr hq.out.2.1.symm)).symm.trans HG.out)
              clear e0
              go_wp2_with fail
              go_ret
              exact ⟨by rw [HT0.out, ← hres.out]; rfl, (below_step (below_step HB1.out HB.out) HB2.out).trans (HBQ.out.mono (by have := HB1.out.size; have := HB.out.size; omega))⟩
            · have e1' : (n1 == 0) = false := by simpa using e1
              have g1 : 1 ≤ n1 := by omega
              have hst : ¬ (cntIn z 0 T j = 0 ∨ cntIn z T 256 j = 0) := by rw [← hq.out.1, ← hq.out.2.1]; omega
              have m0 := meanIn_bounds z HZ.out 0 T j (fun h => hst (.inl h))
              have m1 := meanIn_bounds z HZ.out T 256 j (fun h => hst (.inr h))
              have hnx : levelNext z j T = (meanIn z 0 T j + meanIn z T 256 j + 1) / 2 := rfl
              rw [show meanIn z 0 T j = s0 / n0 by unfold meanIn; rw [← hq.out.1, ← hq.out.2.2.1]] at m0 hnx
              rw [show meanIn z T 256 j = s1 / n1 by unfold meanIn; rw [← hq.out.2.1, ← hq.out.2.2.2]] at m1 hnx
              have t0 : s0.tdiv n0 = s0 / n0 := Int.tdiv_eq_ediv_of_nonneg sb0.1
              have t1 : s1.tdiv n1 = s1 / n1 := Int.tdiv_eq_ediv_of_nonneg sb1.1
              obtain ⟨A, hA⟩ : ∃ A, s0 / n0 = A := ⟨_, rfl⟩
              obtain ⟨B, hB⟩ : ∃ B, s1 / n1 = B := ⟨_, rfl⟩
              rw [hA] at m0 hnx t0
              rw [hB] at m1 hnx t1
              have w0 : IntKind.i64.wrap A = A := IntWalk.i64_in _ (by omega)
              have w1' : IntKind.i64.wrap B = B := IntWalk.i64_in _ (by omega)
              have w2' : IntKind.i64.wrap (A + B) = A + B := IntWalk.i64_in _ (by omega)
              have w3' : IntKind.i64.wrap (A + B + 1) = A + B + 1 := IntWalk.i64_in _ (by omega)
              have t2 : (A + B + 1).tdiv 2 = (A + B + 1) / 2 := Int.tdiv_eq_ediv_of_nonneg (by omega)
              obtain ⟨X, hX⟩ : ∃ X : Nat, (A + B + 1) / 2 = (X : Int) := Int.eq_ofNat_of_zero_le (by omega)
              have hX1 : X ≤ 255 := by omega
              have w4' : IntKind.i64.wrap (X : Int) = (X : Int) := IntWalk.i64_in _ (by omega)
              have HST := Lib.hid hst
              have HNX := Lib.hid (hnx.trans hX)
              have HFIN := Lib.hid ((below_step (below_step HB1.out HB.out) HB2.out).trans (HBQ.out.mono (by have := HB1.out.size; have := HB.out.size; omega)))
              have HFIN2 := Lib.hid ((below_step HB.out HB2.out).trans (HBQ.out.mono HB.out.size))
              clear e0 e1 hst hnx
              by_cases heq : X = T
              · subst heq
                have hres := Lib.hid ((levelGo_same (k := 99 - k) HST.out HNX.out).symm.trans HG.out)
                go_wp2_with fail
                go_quiet (fail)
                go_wp2_with fail
                go_ret
                exact ⟨by rw [HT0.out, ← hres.out]; rfl, below_drewN HFIN.out _⟩
              · have hne : ((X : Int) == (T : Int)) = false := by simpa using (by omega : ¬ (X : Int) = (T : Int))
                have hne' : (X == T) = false := by simpa using heq
                have hres := Lib.hid ((levelGo_next (k := 99 - k) HST.out (by rw [HNX.out]; omega)).symm.trans HG.out)
                clear heq
                go_wp2_with fail
                go_quiet (fail)
                go_wp2_with fail
                go_roundw
                case rel => exact ⟨k + 1, X, by omega, by go_num, rfl, hX1, Lib.hid (by rw [show 100 - (k + 1) = 99 - k by omega, ← HNX.out]; exact hres.out), below_drewN HFIN2.out _⟩
                case measure => simp [intOf]; omega
    · obtain rfl : k = 100 := by omega
      have hres := Lib.hid (show (T : Int) = levelGo z n 100 (T0 : Int) from hg.out)
      have HB := Lib.hid hb
      clear hg hb
      go_wp2_with fail
      go_ret
      exact ⟨by rw [HT0.out, ← hres.out]; rfl, below_step HB1.out HB.out⟩

end Go.Proofs.Ytejhmobpepllcaa
