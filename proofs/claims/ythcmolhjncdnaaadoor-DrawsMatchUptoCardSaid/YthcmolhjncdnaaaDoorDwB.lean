/-
  The reference's RunsOf: the runs of a row that there is.
-/
import Derived.Test.YthcmolhjncdnaaaDoorDwA
namespace Go.Proofs.YthcmolhjncdnaaaDoor
open Go.RowKit
set_option linter.unusedSimpArgs false
set_option linter.unusedVariables false

set_option maxHeartbeats 1000000 in
set_option maxRecDepth 100000 in
theorem runsOfR_at (n H y r g o c : Nat) (z zr : Nat → Bool) (w : World) (hzr : ∀ j, zr j = z (r + j)) (hn : 1 ≤ n ∧ n ≤ 4000) (hH : H ≤ 4000) (hy : y < H) (hr : r = y * n) (hp : ∀ j, j < n * H → w.cell? ⟨g, o + j, none⟩ = some (.bool (z j))) :
    Calls Tryd.prog 16 #[.agg #[.int .i64 n, .int .i64 H, .slice (some ⟨g, o, none⟩) (n * H) c], .int .i64 y] w fun e w' => ∃ v, e = .returned v ∧ w'.ownsRow w.heap.size 3 1 v (runsL zr n).length (natsV (runsL zr n)) ∧ Below w.heap.size w w' := by
  obtain ⟨i0, hi, hz0, hz1, hz2⟩ := info_parts info_int
  obtain ⟨N, hN⟩ : ∃ N, N = n * H := ⟨_, rfl⟩
  have HAT := Lib.hid (fun k q wx (hk : k < n) hc => at_in n H g o c k y q wx (by omega) (by omega) hk hy hc)
  rw [← hN] at hp HAT
  rw [← hN]
  have hfit : (y + 1) * n ≤ n * H := by rw [Nat.mul_comm n H]; exact Nat.mul_le_mul_right n hy
  have hfit2 : r + n ≤ N := by rw [hN, hr]; rw [Nat.succ_mul] at hfit; exact hfit
  have hcl := World.block_lt_of_cell? _ _ (hp 0 (by omega))
  simp only at hcl
  have HC := Lib.hid hp
  have HZR := Lib.hid hzr
  have HRR := Lib.hid hr
  clear hp hfit hr hN hzr
  go_enter Tryd.func16, Tryd.ntmps16
  go_upto_region 2 with fail
  obtain ⟨w1, hw1⟩ : ∃ w1, w1 = (w.alloc (.cells #[.int .i64 n, .int .i64 H, .slice (some ⟨g, o, none⟩) N c] 24)).alloc (.cells #[.int .i64 0] 3) := ⟨_, rfl⟩
  have hb1 : Below w.heap.size w w1 := by rw [hw1]; exact below_alloc (new_below _ _) _
  have hs1 : w1.heap.size = w.heap.size + 2 := by rw [hw1]; simp
  have q0 : w1.cell? ⟨w.heap.size, 0, none⟩ = some (.int .i64 n) := by rw [hw1]; go_simp
  have q1 : w1.cell? ⟨w.heap.size, 1, none⟩ = some (.int .i64 H) := by rw [hw1]; go_simp
  have q2 : w1.cell? ⟨w.heap.size, 2, none⟩ = some (.slice (some ⟨g, o, none⟩) N c) := by rw [hw1]; go_simp
  have hown : w1.ownsRow (w.heap.size + 1) 3 1 (.slice (some ⟨w.heap.size + 1, 0, none⟩) 1 1) 1 [.int .i64 0] := by
    rw [hw1]
    have := World.ownsRow_lit (base := w.heap.size + 1) (e := 3) (size := 1) (w.alloc (.cells #[.int .i64 n, .int .i64 H, .slice (some ⟨g, o, none⟩) N c] 24)) #[.int .i64 0] 1 (by simp) (by decide) rfl
    simpa using this
  have HS := Lib.hid (show RnSt zr (w.heap.size + 1) 0 (.slice (some ⟨w.heap.size + 1, 0, none⟩) 1 1) w1 ∧ Below (w.heap.size + 1) w1 w1 from ⟨hown, Below.refl _ _⟩)
  have HC1 := Lib.hid (fun j hj => cell_later hb1 (HC.out j hj))
  have HB1 := Lib.hid hb1
  rw [← hw1]
  clear hw1 hown hb1
  go_wp2_with fail
  go_loopw [5, 6, 11] (fun v5 v6 i wr => ∃ k : Nat, k ≤ n ∧ i = .int .i64 k ∧ v6 = .bool (lastB zr k) ∧ Hid (RnSt zr (w.heap.size + 1) k v5 wr ∧ Below (w.heap.size + 1) w1 wr)) (fun _ _ i _ => n - (intOf i).toNat)
  case atStart => exact ⟨0, Nat.zero_le _, rfl, rfl, HS⟩
  case round =>
    obtain ⟨k, hk, rfl, rfl, HR⟩ := hrel
    obtain ⟨wo, rfl⟩ : ∃ wo : World, wo = wr := ⟨_, rfl⟩
    have p0 := (HR.out.2.cell (p := ⟨w.heap.size, 0, none⟩) (Nat.lt_succ_self _)).trans q0
    by_cases hlt : k < n
    · have i1 : (k : Int) < (n : Int) := by omega
      have p1 := (HR.out.2.cell (p := ⟨w.heap.size, 1, none⟩) (Nat.lt_succ_self _)).trans q1
      have p2 := (HR.out.2.cell (p := ⟨w.heap.size, 2, none⟩) (Nat.lt_succ_self _)).trans q2
      have hpx := (HR.out.2.cell (p := ⟨g, o + (r + k), none⟩) (by simp; omega)).trans (HC1.out (r + k) (by omega))
      rw [← HZR.out k, HRR.out] at hpx
      have HA := Lib.hid (HAT.out k _ wo hlt hpx)
      obtain ⟨b1, b2, b3, b4, b5, b6, b7⟩ := rn_row zr k
      have HST := Lib.hid (show rnS zr (k + 1) = if zr k = lastB zr k then ((rnS zr k).1, (rnS zr k).2 + 1) else ((rnS zr k).1 ++ [(rnS zr k).2], 1) from rfl)
      have HLB := Lib.hid (show lastB zr (k + 1) = zr k from rfl)
      clear b1 b2 b3 b4 b7 hpx
      obtain ⟨I, hI⟩ : ∃ I, I = (rnS zr k).1 := ⟨_, rfl⟩
      obtain ⟨x, hx⟩ : ∃ x, x = (rnS zr k).2 := ⟨_, rfl⟩
      obtain ⟨q, hq⟩ : ∃ q, q = zr k := ⟨_, rfl⟩
      obtain ⟨lb, hlb⟩ : ∃ lb, lb = lastB zr k := ⟨_, rfl⟩
      rw [← hq] at HA
      rw [← hI] at b5
      rw [← hx] at b6
      rw [← hlb]
      have h0 := HR.out.1
      unfold RnSt at h0
      rw [← hI, ← hx] at h0
      have HR2 := Lib.hid HR.out.2
      obtain ⟨sg, sc, rfl⟩ := owns_slice h0 (by omega)
      have H0 := Lib.hid h0
      have hge := (h0.lt sg rfl).1
      clear h0 HR
      by_cases e : q = lb
      · have E := Lib.hid (show rnS zr (k + 1) = (I, x + 1) by rw [HST.out, if_pos (by rw [← hq, ← hlb]; exact e), hI, hx])
        have E2 := Lib.hid (show lastB zr (k + 1) = lb by rw [HLB.out, ← hq]; exact e)
        clear HST HLB hI hx hq hlb
        subst e
        cases q <;> (
          go_wp2_with fail
          refine HA.out.mono ?_
          rintro e w7 ⟨rfl, hb7⟩
          have h1 := below_owns H0.out hb7
          have hcell := rn_last h1
          have hfz := h1.frozenAt I.length
          have H1 := Lib.hid (rn_longer h1)
          have H2 := Lib.hid (HR2.out.trans (hb7.mono (by have := HR2.out.size; omega)))
          clear h1 hb7 HA H0
          go_wp2_with fail
          go_roundw
          case rel => exact ⟨k + 1, by omega, by go_num, by rw [E2.out], Lib.hid ⟨by unfold RnSt; rw [E.out]; exact H1.out, H2.out.setCell hge _⟩⟩
          case measure => simp [intOf]; omega)
      · have E := Lib.hid (show rnS zr (k + 1) = (I ++ [x], 1) by rw [HST.out, if_neg (by rw [← hq, ← hlb]; exact e), hI, hx])
        have hq2 : q = !lb := by revert e; cases q <;> cases lb <;> simp
        have E2 := Lib.hid (show lastB zr (k + 1) = !lb by rw [HLB.out, ← hq]; exact hq2)
        clear HST HLB hI hx hq hlb e
        subst hq2
        cases lb <;> (
          go_wp2_with fail
          refine HA.out.mono ?_
          rintro e w7 ⟨rfl, hb7⟩
          have H1 := Lib.hid (below_owns H0.out hb7)
          have H2 := Lib.hid (HR2.out.trans (hb7.mono (by have := HR2.out.size; omega)))
          clear hb7 HA H0
          go_wp2_with (first | (at_builtin; refine wpList_append_own _ rfl _ _ 25 rfl (w.heap.size + 1) 3 i0 (.int .i64 0) 1 8 Tryd.underlying25 hi hz0 hz1 hz2 rfl (by decide) _ _ _ rfl (H1.out.alloc _) ⟨w7.heap.size, 0, none⟩ 1 1 [.int .i64 0] rfl rfl ?c1 ?c2 ?c3 ?c4 ?c5 ?_))
          case c1 => exact cell_one_new _ _ _
          case c2 => intro u hu; simp at hu; subst hu; rfl
          case c3 => unfold maxLen; omega
          case c4 => omega
          case c5 => have := H2.out.size; simp; omega
          intro v' w5 hown5 hgr5 _
          obtain ⟨ng, nc, rfl⟩ := owns_slice hown5 (by omega)
          have hN : w.heap.size + 1 ≤ (w7.alloc (.cells #[.int .i64 0] 3)).heap.size := by have := H2.out.size; simp; omega
          have hb5 : Below (w.heap.size + 1) w1 w5 := (H2.out.alloc (by have := H2.out.size; omega) (.cells #[.int .i64 0] 3)).grown hgr5 hN (fun j hj => (H1.out.lt j hj).1)
          have hown6 : w5.ownsRow (w.heap.size + 1) 3 1 (.slice (some ⟨ng, 0, none⟩) ((I ++ [x]).length + 1) nc) ((I ++ [x]).length + 1) (natsV ((I ++ [x]) ++ [0])) := by
            rw [← natsV_snoc]
            simpa using hown5
          have hcell := rn_last hown6
          have hfz := hown6.frozenAt (I ++ [x]).length
          have hge2 := (hown6.lt ng rfl).1
          have H6 := Lib.hid (rn_longer hown6)
          have H7 := Lib.hid hb5
          simp only [List.length_append, List.length_singleton] at hcell hfz H6
          clear hown5 hgr5 hown6 hb5 hN
          go_wp2_with fail
          go_roundw
          case rel => exact ⟨k + 1, by omega, by go_num, by rw [E2.out]; rfl, Lib.hid ⟨by unfold RnSt; rw [E.out]; simp only [List.length_append, List.length_singleton]; exact H6.out, H7.out.setCell hge2 _⟩⟩
          case measure => simp [intOf]; omega)
    · obtain rfl : k = n := by omega
      go_wp2_with fail
      go_ret
      have hr : runsL zr k = (rnS zr k).1 ++ [(rnS zr k).2] := by unfold runsL rnL; rw [if_neg (by omega)]
      refine ⟨_, rfl, ?_, HB1.out.trans (HR.out.2.mono (by omega))⟩
      rw [hr, List.length_append, List.length_singleton]
      exact owns_base HR.out.1 (by omega)

end Go.Proofs.YthcmolhjncdnaaaDoor
