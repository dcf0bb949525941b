/-
  The walk of the law MeansMatch where the page and the radius are right.
-/
import Derived.Test.YtejhmobpepllcaaMm
namespace Go.Proofs.Ytejhmobpepllcaa
open Go.RowKit
set_option linter.unusedSimpArgs false
set_option linter.unusedVariables false

theorem mm_step (P : Nat → Int) (W H T L Rm Bm j i : Nat) (ss sv mm mv p : Int) (hP : ∀ j, 0 ≤ P j ∧ P j ≤ 255) (hp : p = P (j * W + i))
    (hjs : Hid (ss = rectSum P W T L (Rm + 1 - L) (j - T) ∧ mm = (((Rm + 1 - L) * (j - T) : Nat) : Int))) (his : Hid (sv = ss + rowSum P (j * W + L) (i - L) ∧ mv = mm + ((i - L : Nat) : Int)))
    (u3 : True ∨ True) (u5 : Bm < H) (u6 : Rm < W) (hj1 : T ≤ j) (hj2 : j ≤ Bm + 1) (hi1 : L ≤ i) (hi2 : i ≤ Rm) (hj3 : j ≤ Bm) (hN : W * H ≤ 1048576) (hW : W ≤ 4000) (hH : H ≤ 4000) :
    (sv + p = ss + rowSum P (j * W + L) (i + 1 - L) ∧ mv + 1 = mm + ((i + 1 - L : Nat) : Int)) ∧ sv + p ≤ 300000000 ∧ mv + 1 ≤ 16000000 := by
  obtain ⟨e1, e2⟩ := hjs.out
  obtain ⟨e3, e4⟩ := his.out
  have h1 : rowSum P (j * W + L) (i + 1 - L) = rowSum P (j * W + L) (i - L) + P (j * W + i) := by
    rw [show i + 1 - L = (i - L) + 1 by omega, rowSum, show j * W + L + (i - L) = j * W + i by omega]
  have b1 := rectSum_bounds P hP W T L (Rm + 1 - L) (j - T)
  have b2 := rowSum_bounds P hP (j * W + L) (i + 1 - L)
  have b3 := Nat.mul_le_mul (show Rm + 1 - L ≤ W by omega) (show j - T ≤ H by omega)
  refine ⟨⟨by omega, by omega⟩, by omega, by omega⟩

theorem mm_row (P : Nat → Int) (W H T L Rm Bm j i : Nat) (ss sv mm mv : Int) (hP : ∀ j, 0 ≤ P j ∧ P j ≤ 255)
    (hjs : Hid (ss = rectSum P W T L (Rm + 1 - L) (j - T) ∧ mm = (((Rm + 1 - L) * (j - T) : Nat) : Int))) (his : Hid (sv = ss + rowSum P (j * W + L) (i - L) ∧ mv = mm + ((i - L : Nat) : Int)))
    (u3 : True ∨ True) (u5 : Bm < H) (u6 : Rm < W) (hj1 : T ≤ j) (hj2 : j ≤ Bm + 1) (hi : i = Rm + 1) (hl : L ≤ Rm) :
    sv = rectSum P W T L (Rm + 1 - L) (j + 1 - T) ∧ mv = (((Rm + 1 - L) * (j + 1 - T) : Nat) : Int) := by
  obtain ⟨e1, e2⟩ := hjs.out
  obtain ⟨e3, e4⟩ := his.out
  subst hi
  rw [show j + 1 - T = (j - T) + 1 by omega]
  refine ⟨?_, ?_⟩
  · rw [rectSum, show T + (j - T) = j by omega]; omega
  · rw [Nat.mul_add, Nat.mul_one]; omega

theorem mm_end (P : Nat → Int) (W H T L Rm Bm j r x y : Nat) (ss mm : Int)
    (hjs : Hid (ss = rectSum P W T L (Rm + 1 - L) (j - T) ∧ mm = (((Rm + 1 - L) * (j - T) : Nat) : Int))) (hj : j = Bm + 1)
    (hT : T = y - r) (hL : L = x - r) (hB : Bm = min (H - 1) (y + r)) (hR : Rm = min (W - 1) (x + r)) (hx : x < W) (hy : y < H) :
    1 ≤ mm ∧ (2 * ss + mm) / (2 * mm) = meanAt P W H r x y := by
  obtain ⟨e1, e2⟩ := hjs.out
  have h1 : Rm + 1 - L = min (x + r + 1) W - (x - r) := by omega
  have h2 : j - T = min (y + r + 1) H - (y - r) := by omega
  have h3 : mm = (((min (x + r + 1) W : Nat) : Int) - ((x - r : Nat) : Int)) * (((min (y + r + 1) H : Nat) : Int) - ((y - r : Nat) : Int)) := by
    have c1 : ((min (x + r + 1) W - (x - r) : Nat) : Int) = ((min (x + r + 1) W : Nat) : Int) - ((x - r : Nat) : Int) := by omega
    have c2 : ((min (y + r + 1) H - (y - r) : Nat) : Int) = ((min (y + r + 1) H : Nat) : Int) - ((y - r : Nat) : Int) := by omega
    rw [e2, h1, h2, Int.natCast_mul, c1, c2]
  refine ⟨?_, ?_⟩
  · rw [e2]
    have := Nat.mul_pos (show 0 < Rm + 1 - L by omega) (show 0 < j - T by omega)
    omega
  · unfold meanAt
    rw [← h3, e1, h1, h2, hT, hL]

set_option maxHeartbeats 2000000 in
set_option maxRecDepth 100000 in
theorem mm_ok (W H pb po c r : Nat) (P : Nat → Int) (w : World) (he : sizeErr W H = 0) (hr : r ≤ 200) (hP : ∀ j, 0 ≤ P j ∧ P j ≤ 255) 
    (hp : ∀ j, j < W * H → w.cell? ⟨pb, po + j, none⟩ = some (.int .u8 (P j))) :
    Calls Try.prog 7 #[.agg #[.int .i64 W, .int .i64 H, .slice (some ⟨pb, po, none⟩) (W * H) c], .int .i64 r] w fun e w' => e = .returned (.bool true) ∧ Below w.heap.size w w' := by
  obtain ⟨⟨a1, a2, a3, a4⟩, a5, a6⟩ := sizeErr_zero he
  have hpe : pageErr W H (W * H) = 0 := by unfold pageErr; rw [if_pos he, if_pos (by simp [Int.natCast_mul])]
  have hN : W * H ≤ 1048576 := by rw [← Int.natCast_mul] at a6; omega
  clear a5 a6
  have HE := Lib.hid he
  have HP := Lib.hid hP
  have HC := Lib.hid hp
  have ho : orI 0 (whenI false 3) = 0 := rfl
  clear he hP hp
  go_enter Try.func7, Try.ntmps7
  go_wp2_with fail
  obtain ⟨w0, hw0⟩ : ∃ w0, w0 = w.alloc (.cells #[.int .i64 W, .int .i64 H, .slice (some ⟨pb, po, none⟩) (W * H) c] 27) := ⟨_, rfl⟩
  have B0 : Below w.heap.size w w0 := by rw [hw0]; exact new_below _ _
  have q0 : w0.cell? ⟨w.heap.size, 0, none⟩ = some (.int .i64 W) := by rw [hw0]; go_simp
  have q1 : w0.cell? ⟨w.heap.size, 1, none⟩ = some (.int .i64 H) := by rw [hw0]; go_simp
  have q2 : w0.cell? ⟨w.heap.size, 2, none⟩ = some (.slice (some ⟨pb, po, none⟩) (W * H) c) := by rw [hw0]; go_simp
  rw [← hw0]
  clear hw0
  refine (means_ok W H pb po c r P w0 HE.out hr HP.out (fun j hj => cell_later B0 (HC.out j hj))).mono ?_
  rintro e w1 ⟨v, rfl, hown1, hb1⟩
  obtain ⟨g1, cap1, rfl⟩ : ∃ g cap, v = .slice (some ⟨g, 0, none⟩) (W * H) cap := by
    rcases hown1.2 with ⟨_, h0⟩ | ⟨g, cap, cur, rfl, _⟩
    · have := Nat.mul_pos (show 0 < W by omega) (show 0 < H by omega)
      omega
    · exact ⟨g, cap, rfl⟩
  have hl : ∀ j, j < W * H → w1.cell? ⟨g1, j, none⟩ = some (.int .i64 (meanAt P W H r (j % W) (j / W))) := fun j hj => by
    rw [hown1.cellAt j (by omega)]
    simp [places, List.getElem?_range hj]
  have k0 := cell_later hb1 q0
  have k1 := cell_later hb1 q1
  have k2 := cell_later hb1 q2
  have B1 := below_step B0 hb1
  clear q0 q1 q2 B0 hb1 hown1
  have HL := Lib.hid hl
  clear hl
  go_wp2_with fail
  refine (grayError_any _ _ _ _ _ _).mono ?_
  rintro e w2 ⟨rfl, hb2⟩
  have q0 := cell_later hb2 k0
  have q1 := cell_later hb2 k1
  have q2 := cell_later hb2 k2
  have l0 := World.block_lt_of_cell? _ _ q0
  have B2 := below_step B1 hb2
  have C2 := hb2
  clear k0 k1 k2 B1 hb2
  simp only at l0
  go_wp2_with (first | (go_at_call 50; refine (in_yes _ _ _ _ (by omega)).mono ?_; rintro e w' ⟨rfl, rfl⟩) | (go_at_call 26; refine (when_any _ _ _).mono ?_; rintro e w' ⟨rfl, rfl⟩) | (go_at_call 25; refine (first2_new _ _ _).mono ?_; rintro e w' ⟨rfl, rfl⟩))
  have D2 := below_step C2 (new_below w2 (.cells #[.int .i64 0, .int .i64 (whenI false 3)] 30))
  refine (pages_any _).mono ?_
  rintro e w3 ⟨rfl, hb3⟩
  have k0 := cell_later (below_step (new_below _ _) hb3) q0
  have k1 := cell_later (below_step (new_below _ _) hb3) q1
  have k2 := cell_later (below_step (new_below _ _) hb3) q2
  have B3 := below_step (below_alloc B2 _) hb3
  have C3 := below_step (below_alloc C2 _) hb3
  clear B2 hb3 C2 D2 q0 q1 q2
  by_cases hbig : 400 < W * H
  · have hb4 : (400 : Int) < (W : Int) * (H : Int) := by rw [← Int.natCast_mul]; omega
    go_wp2_with fail
    go_ret
    exact ⟨rfl, B3⟩
  have hb4 : (W : Int) * (H : Int) ≤ 400 := by rw [← Int.natCast_mul]; omega
  obtain ⟨i0, hi, hz0, hz1, hz2⟩ := info_parts info_int
  have hpw : ∀ j, j < W * H → w3.cell? ⟨pb, po + j, none⟩ = some (.int .u8 (P j)) := fun j hj => cell_later B3 (HC.out j hj)
  have hlw : ∀ j, j < W * H → w3.cell? ⟨g1, j, none⟩ = some (.int .i64 (meanAt P W H r (j % W) (j / W))) := fun j hj => cell_later C3 (HL.out j hj)
  have HPW := Lib.hid hpw
  have HLW := Lib.hid hlw
  have HB3 := Lib.hid B3
  clear hpw hlw HC HL C3 B3 l0 hpe ho
  go_wp2_with fail
  go_loopw [8, 54] (fun v i wr => ∃ y : Nat, y ≤ H ∧ i = .int .i64 y ∧ wr.ownsRow w3.heap.size 3 1 v (y * W) ((places W (meanAt P W H r) (y * W)).map (Value.int .i64)) ∧ Below w3.heap.size w3 wr) (fun _ i _ => H - (intOf i).toNat)
  case atStart => exact ⟨0, Nat.zero_le _, rfl, by simpa [places] using World.ownsRow_nil _ _ _ _, Below.refl _ _⟩
  case round =>
    obtain ⟨y, hy, rfl, hown, hb⟩ := hrel
    have c0 := cell_later hb k0
    have c1 := cell_later hb k1
    by_cases hlt : y < H
    · obtain ⟨wo, rfl⟩ : ∃ wo : World, wo = wr := ⟨_, rfl⟩
      go_wp2_with fail
      go_loopw [8, 59] (fun v i wr => ∃ x : Nat, x ≤ W ∧ i = .int .i64 x ∧ wr.ownsRow w3.heap.size 3 1 v (y * W + x) ((places W (meanAt P W H r) (y * W + x)).map (Value.int .i64)) ∧ Below w3.heap.size w3 wr) (fun _ i _ => W - (intOf i).toNat)
      case atStart => exact ⟨0, Nat.zero_le _, rfl, by simpa using hown, hb⟩
      case round =>
        obtain ⟨x, hx, rfl, hownr, hbr⟩ := hrel
        clear hown hb c0 c1
        have c0 := cell_later hbr k0
        have c1 := cell_later hbr k1
        have c2 := cell_later hbr k2
        have HO := Lib.hid hownr
        have HBR := Lib.hid hbr
        clear hownr hbr
        by_cases hltx : x < W
        · obtain ⟨T, hT⟩ : ∃ T, T = y - r := ⟨_, rfl⟩
          obtain ⟨L, hL⟩ : ∃ L, L = x - r := ⟨_, rfl⟩
          obtain ⟨Bm, hBm⟩ : ∃ Bm, Bm = min (H - 1) (y + r) := ⟨_, rfl⟩
          obtain ⟨Rm, hRm⟩ : ∃ Rm, Rm = min (W - 1) (x + r) := ⟨_, rfl⟩
          have eT : max 0 ((y : Int) - (r : Int)) = (T : Int) := by omega
          have eL : max 0 ((x : Int) - (r : Int)) = (L : Int) := by omega
          have eB : min ((H : Int) - 1) ((y : Int) + (r : Int)) = (Bm : Int) := by omega
          have eR : min ((W : Int) - 1) ((x : Int) + (r : Int)) = (Rm : Int) := by omega
          have u1 : T ≤ y ∧ y ≤ Bm ∧ Bm < H := by omega
          have u2 : L ≤ x ∧ x ≤ Rm ∧ Rm < W := by omega
          have GT := Lib.hid hT
          have GL := Lib.hid hL
          have GB := Lib.hid hBm
          have GR := Lib.hid hRm
          clear hT hL hBm hRm
          obtain ⟨u1, u3, u5⟩ := u1
          obtain ⟨u2, u4, u6⟩ := u2
          go_wp2_with fail
          go_loop [11, 12, 13] (fun s m j => ∃ (k : Nat) (ss mm : Int), T ≤ k ∧ k ≤ Bm + 1 ∧ j = .int .i64 k ∧ s = .int .i64 ss ∧ m = .int .i64 mm ∧ 0 ≤ ss ∧ ss ≤ 300000000 ∧ 0 ≤ mm ∧ mm ≤ 16000000 ∧ Hid (ss = rectSum P W T L (Rm + 1 - L) (k - T) ∧ mm = (((Rm + 1 - L) * (k - T) : Nat) : Int))) (fun _ _ j => Bm + 1 - (intOf j).toNat)
          case atStart => exact ⟨T, 0, 0, Nat.le_refl _, by omega, rfl, rfl, rfl, by omega, by omega, by omega, by omega, Lib.hid ⟨by simp [rectSum], by simp⟩⟩
          case round =>
            obtain ⟨j, ss, mm, hj1, hj2, rfl, rfl, rfl, s0, s1, m0, m1, hjs⟩ := hrel
            by_cases hltj : j ≤ Bm
            · go_wp2_with fail
              go_loop [11, 12, 14] (fun s m i => ∃ (k : Nat) (sv mv : Int), L ≤ k ∧ k ≤ Rm + 1 ∧ i = .int .i64 k ∧ s = .int .i64 sv ∧ m = .int .i64 mv ∧ 0 ≤ sv ∧ sv ≤ 300000000 ∧ 0 ≤ mv ∧ mv ≤ 16000000 ∧ Hid (sv = ss + rowSum P (j * W + L) (k - L) ∧ mv = mm + ((k - L : Nat) : Int))) (fun _ _ i => Rm + 1 - (intOf i).toNat)
              case atStart => exact ⟨L, ss, mm, Nat.le_refl _, by omega, rfl, rfl, rfl, s0, s1, m0, m1, Lib.hid ⟨by simp [rowSum], by simp⟩⟩
              case round =>
                obtain ⟨i, sv, mv, hi1, hi2, rfl, rfl, rfl, v0, v1, n0, n1, his⟩ := hrel
                by_cases hlti : i ≤ Rm
                · have hfit := row_fits (show j < H by omega) (show i + 1 ≤ W by omega)
                  have hpx := cell_later HBR.out (HPW.out (j * W + i) (by omega))
                  have hpv := HP.out (j * W + i)
                  obtain ⟨p, hpe⟩ : ∃ p, p = P (j * W + i) := ⟨_, rfl⟩
                  rw [← hpe] at hpx hpv
                  have EP := Lib.hid hpe
                  clear hpe
                  have x0 : (0 : Int) ≤ (j : Int) * (W : Int) := Int.mul_nonneg (by omega) (by omega)
                  have x1 : (j : Int) * (W : Int) + (i : Int) < (W : Int) * (H : Int) := by rw [← Int.natCast_mul, ← Int.natCast_mul]; omega
                  have x2 : (j : Int) * (W : Int) + (i : Int) < ((W * H : Nat) : Int) := by rw [← Int.natCast_mul]; omega
                  clear hfit
                  go_wp2_with fail
                  have R := mm_step P W H T L Rm Bm j i ss sv mm mv p HP.out EP.out hjs his (Or.inl trivial) u5 u6 hj1 hj2 hi1 hlti hltj hN (by omega) (by omega)
                  go_round
                  case rel => exact ⟨i + 1, sv + p, mv + 1, by omega, by omega, by go_num, rfl, rfl, by omega, R.2.1, by omega, R.2.2, Lib.hid R.1⟩
                  case measure => simp [intOf]; omega
                · have R := mm_row P W H T L Rm Bm j i ss sv mm mv HP.out hjs his (Or.inl trivial) u5 u6 hj1 hj2 (show i = Rm + 1 by omega) (show L ≤ Rm by omega)
                  go_wp2_with fail
                  go_round
                  case rel => exact ⟨j + 1, sv, mv, by omega, by omega, by go_num, rfl, rfl, v0, v1, n0, n1, Lib.hid R⟩
                  case measure => simp [intOf]; omega
            · have hmm := mm_end P W H T L Rm Bm j r x y ss mm hjs (show j = Bm + 1 by omega) GT.out GL.out GB.out GR.out hltx hlt
              have hm1 : 1 ≤ mm := hmm.1
              have HV := Lib.hid hmm.2
              have hfit := row_fits hlt (show x + 1 ≤ W by omega)
              clear hmm
              go_wp2_with (first | (go_at_call 55; refine (round_any _ _ _ s0 (by omega) hm1 (by omega)).mono ?_; rintro e wq ⟨rfl, rfl⟩) | (at_builtin; refine wpList_append_own _ rfl _ _ 69 rfl w3.heap.size 3 i0 (.int .i64 0) 1 8 Try.underlying69 hi hz0 hz1 hz2 rfl (by decide) _ _ _ rfl (HO.out.alloc _) ⟨wr.heap.size, 0, none⟩ 1 1 [.int .i64 ((2 * ss + mm) / (2 * mm))] rfl rfl ?c1 ?c2 ?c3 ?c4 ?c5 ?_))
              case c1 => exact cell_one_new _ _ _
              case c2 => intro u hu; simp at hu; subst hu; rfl
              case c3 => unfold maxLen; omega
              case c4 => omega
              case c5 => have h1 := HBR.out.size; simp; omega
              · intro v' w5 hown5 hgr5 _
                have hb5 : Below w3.heap.size w3 w5 := (HBR.out.alloc HBR.out.size _).grown hgr5 (by have h1 := HBR.out.size; simp; omega) (fun k hk => (HO.out.lt k hk).1)
                have hp := Lib.hid (places_succ W (meanAt P W H r) x y hltx)
                clear hgr5
                go_wp2_with fail
                go_roundw
                case rel => exact ⟨x + 1, by omega, by go_num, by rw [← Nat.add_assoc, hp.out, List.map_append, ← HV.out]; exact hown5, hb5⟩
                case measure => simp [intOf]; omega
        · have hxe := Lib.hid (show x = W by omega)
          go_wp2_with fail
          go_roundw
          case rel => exact ⟨y + 1, by omega, by go_num, by rw [show (y + 1) * W = y * W + x by rw [hxe.out, Nat.add_mul, Nat.one_mul]]; exact HO.out, HBR.out⟩
          case measure => simp [intOf]; omega
    · have hye := Lib.hid (show y = H by omega)
      have hne : 0 < W * H := Nat.mul_pos (by omega) (by omega)
      have hown' := hown
      rw [hye.out, Nat.mul_comm H W] at hown'
      obtain ⟨g2, cap2, hv⟩ : ∃ g cap, u8 = .slice (some ⟨g, 0, none⟩) (W * H) cap := by
        rcases hown'.2 with ⟨_, h0⟩ | ⟨g, cap, cur, hv, _⟩
        · omega
        · exact ⟨g, cap, hv⟩
      rw [hv] at hown' ⊢
      have z1 : ∀ j, j < W * H → wr.cell? ⟨g1, 0 + j, none⟩ = some (.int .i64 (meanAt P W H r (j % W) (j / W))) := fun j hj => by rw [Nat.zero_add]; exact cell_later hb (HLW.out j hj)
      have z2 : ∀ j, j < W * H → wr.cell? ⟨g2, 0 + j, none⟩ = some (.int .i64 (meanAt P W H r (j % W) (j / W))) := fun j hj => by
        rw [Nat.zero_add, hown'.cellAt j (by omega)]
        simp [places, List.getElem?_range hj]
      have HEQ := Lib.hid (equalInt_true g1 0 g2 0 (W * H) cap1 cap2 (fun j => meanAt P W H r (j % W) (j / W)) wr (by omega) z1 z2)
      have HB := Lib.hid hb
      clear z1 z2 hown hown' hb hne hv
      go_wp2_with (go_at_call 63; refine HEQ.out.mono ?_; rintro e wq ⟨rfl, q, rfl⟩)
      go_ret
      exact ⟨rfl, below_drewN (below_step HB3.out HB.out) q⟩

end Go.Proofs.Ytejhmobpepllcaa
