/-
  DrawsMatch, walked.
-/
import Derived.Test.YthcmolhjncdnaaaDoorDwW
import Derived.Test.YthcmolhjncdnaaaDoorDwQ
import Derived.StillTailTactics
namespace Go.Proofs.YthcmolhjncdnaaaDoor
open Go.RowKit
set_option linter.unusedSimpArgs false
set_option linter.unusedVariables false

/-- The arguments in memory. -/
def ArgsAt (w : World) (B : Nat) (m : ByteArray) (u hh q a b : Int) (s : Option Addr) (k c : Nat) : Prop :=
  w.cell? ⟨B, 0, none⟩ = some (.string m) ∧ w.cell? ⟨B + 1, 0, none⟩ = some (.int .i64 u) ∧ w.cell? ⟨B + 1 + 1, 0, none⟩ = some (.int .i64 hh) ∧ w.cell? ⟨B + 1 + 1 + 1, 0, none⟩ = some (.int .i64 q) ∧
  w.cell? ⟨B + 1 + 1 + 1 + 1, 0, none⟩ = some (.int .i64 a) ∧ w.cell? ⟨B + 1 + 1 + 1 + 1, 1, none⟩ = some (.int .i64 b) ∧ w.cell? ⟨B + 1 + 1 + 1 + 1, 2, none⟩ = some (.slice s k c)
theorem ArgsAt.later {w w' : World} {B : Nat} {m : ByteArray} {u hh q a b : Int} {s : Option Addr} {k c : Nat} (h : ArgsAt w B m u hh q a b s k c) (hb : Below w.heap.size w w') : ArgsAt w' B m u hh q a b s k c :=
  ⟨cell_later hb h.1, cell_later hb h.2.1, cell_later hb h.2.2.1, cell_later hb h.2.2.2.1, cell_later hb h.2.2.2.2.1, cell_later hb h.2.2.2.2.2.1, cell_later hb h.2.2.2.2.2.2⟩

/-- What stands when the page has been drawn, and its error been told. -/
def DwSt (w0 : World) (m : ByteArray) (u hh q a b : Int) (s : Option Addr) (k c : Nat) (pb : Nat) (w : World) : Prop :=
  ArgsAt w w0.heap.size m u hh q a b s k c ∧ (∃ x y ps pn pc, w.cell? ⟨pb, 0, none⟩ = some (.int .i64 x) ∧ w.cell? ⟨pb, 1, none⟩ = some (.int .i64 y) ∧ w.cell? ⟨pb, 2, none⟩ = some (.slice ps pn pc) ∧ DrawnV m u hh q x y ps pn pc w) ∧ Below w0.heap.size w0 w

theorem dw_page_parts {a b : Int} {n : Nat} (h : pageErr a b n = 0) : sizeErr a b = 0 ∧ (n : Int) = a * b := by
  unfold pageErr at h
  by_cases h0 : sizeErr a b = 0
  · rw [if_pos h0] at h
    by_cases h1 : (n : Int) = a * b
    · exact ⟨h0, h1⟩
    · rw [if_neg h1] at h; simp at h
  · rw [if_neg h0] at h; exact absurd h h0

/-- The numbers of a right page. -/
theorem dw_page_nat {a b : Int} {n : Nat} (h : pageErr a b n = 0) : ∃ W H : Nat, a = W ∧ b = H ∧ n = W * H ∧ 1 ≤ W ∧ W ≤ 4000 ∧ 1 ≤ H ∧ H ≤ 4000 ∧ n ≤ 1048576 ∧ sizeErr (W : Int) (H : Int) = 0 := by
  obtain ⟨he, hn⟩ := dw_page_parts h
  obtain ⟨⟨a1, a2, a3, a4⟩, z0, z1⟩ := sizeErr_zero he
  obtain ⟨W, rfl⟩ := Int.eq_ofNat_of_zero_le (by omega : 0 ≤ a)
  obtain ⟨H, rfl⟩ := Int.eq_ofNat_of_zero_le (by omega : 0 ≤ b)
  refine ⟨W, H, rfl, rfl, ?_, by omega, by omega, by omega, by omega, by omega, he⟩
  have : (n : Int) = ((W * H : Nat) : Int) := by rw [hn, Int.natCast_mul]
  omega

theorem firstD_drew (x y u : Int) (w : World) :
    Calls Tryd.prog 5 #[.slice (some ⟨w.heap.size, 0, none⟩) 3 3] (w.alloc (.cells #[.int .i64 x, .int .i64 y, .int .i64 u] 26)).drew fun r w' => r = .returned (.int .i64 (orI x (orI y u))) ∧ (w.alloc (.cells #[.int .i64 x, .int .i64 y, .int .i64 u] 26)).drew = w' := by
  refine (first_any w.heap.size [x, y, u] _ (by simp) ?_).mono ?_
  · intro j hj
    show (w.alloc (.cells #[.int .i64 x, .int .i64 y, .int .i64 u] 26)).cell? _ = _
    match j, hj with
    | 0, _ => rw [World.cell?_alloc_at _ _ _ _ rfl]; rfl
    | 1, _ => rw [World.cell?_alloc_at _ _ _ _ rfl]; rfl
    | 2, _ => rw [World.cell?_alloc_at _ _ _ _ rfl]; rfl
  · rintro e w' ⟨rfl, rfl⟩
    refine ⟨ret_int ?_, rfl⟩
    simp only [firstOf, orI]
    by_cases hx : x = 0
    · by_cases hy : y = 0
      · by_cases hu : u = 0 <;> simp [hx, hy, hu]
      · simp [hx, hy]
    · simp [hx]

/-- The errors but that of the size. -/
def drawErr0 (m : ByteArray) (u h q : Int) : Int :=
  if m.size = 0 then 9 else if bitsB m = false then 2 else if ¬ (((1 ≤ u ∧ u ≤ 8) ∧ (1 ≤ h ∧ h ≤ 4000)) ∧ (0 ≤ q ∧ q ≤ 200)) then 3 else 0
theorem want0 (m : ByteArray) (u h q : Int) (r : Bool) (hr : r = decide (((1 ≤ u ∧ u ≤ 8) ∧ (1 ≤ h ∧ h ≤ 4000)) ∧ (0 ≤ q ∧ q ≤ 200))) :
    orI (whenI m.toList.isEmpty 9) (orI (whenI (!bitsB m) 2) (whenI (!r) 3)) = drawErr0 m u h q := by
  unfold orI whenI drawErr0
  rw [empty_iff]
  by_cases h0 : m.size = 0
  · simp [h0]
  · by_cases h1 : bitsB m = true
    · by_cases h2 : ((1 ≤ u ∧ u ≤ 8) ∧ (1 ≤ h ∧ h ≤ 4000)) ∧ (0 ≤ q ∧ q ≤ 200)
      · rw [hr]; simp [h0, h1, h2]
      · rw [hr, decide_eq_false h2]; simp only [h0, h1]; rw [if_pos h2]; simp
    · have h1' : bitsB m = false := by simpa using h1
      simp [h0, h1']

theorem DwSt.later {w0 w w' : World} {m : ByteArray} {u hh q a b : Int} {s : Option Addr} {k c pb : Nat} (h : DwSt w0 m u hh q a b s k c pb w) (hb : Below w.heap.size w w') : DwSt w0 m u hh q a b s k c pb w' := by
  obtain ⟨h1, ⟨x, y, ps, pn, pc, g0, g1, g2, hd⟩, h3⟩ := h
  exact ⟨h1.later hb, ⟨x, y, ps, pn, pc, cell_later hb g0, cell_later hb g1, cell_later hb g2, hd.later hb⟩, below_step h3 hb⟩
theorem err0_same {m : ByteArray} {u hh q : Int} (h : drawErr0 m u hh q ≠ 0) : drawErr m u hh q = drawErr0 m u hh q := by
  unfold drawErr0 at h
  unfold drawErr drawErr0
  by_cases a : m.size = 0
  · rw [if_pos a, if_pos a]
  · rw [if_neg a] at h ⊢
    rw [if_neg a]
    by_cases b : bitsB m = false
    · rw [if_pos b, if_pos b]
    · rw [if_neg b] at h ⊢
      rw [if_neg b]
      by_cases c : ¬ (((1 ≤ u ∧ u ≤ 8) ∧ (1 ≤ hh ∧ hh ≤ 4000)) ∧ (0 ≤ q ∧ q ≤ 200))
      · rw [if_pos c, if_pos c]
      · rw [if_neg c] at h; exact absurd rfl h
theorem err0_zero {m : ByteArray} {u hh q : Int} (h : drawErr0 m u hh q = 0) : ∃ U Q H : Nat, u = U ∧ q = Q ∧ hh = H ∧ drawErr m u hh q = sizeErr (2 * q + u * (m.size : Int)) hh ∧ (1 ≤ U ∧ U ≤ 8) ∧ (1 ≤ H ∧ H ≤ 4000) ∧ Q ≤ 200 := by
  unfold drawErr0 at h
  by_cases a : m.size = 0
  · rw [if_pos a] at h; cases h
  · rw [if_neg a] at h
    by_cases b : bitsB m = false
    · rw [if_pos b] at h; cases h
    · rw [if_neg b] at h
      by_cases c : ((1 ≤ u ∧ u ≤ 8) ∧ (1 ≤ hh ∧ hh ≤ 4000)) ∧ (0 ≤ q ∧ q ≤ 200)
      · obtain ⟨⟨a1, a2⟩, a3⟩ := c
        obtain ⟨U, rfl⟩ := Int.eq_ofNat_of_zero_le (show 0 ≤ u by omega)
        obtain ⟨Q, rfl⟩ := Int.eq_ofNat_of_zero_le (show 0 ≤ q by omega)
        obtain ⟨H, rfl⟩ := Int.eq_ofNat_of_zero_le (show 0 ≤ hh by omega)
        exact ⟨U, Q, H, rfl, rfl, rfl, by unfold drawErr; rw [if_neg a, if_neg b, if_neg (fun h => h ⟨⟨a1, a2⟩, a3⟩)], by omega, by omega, by omega⟩
      · rw [if_pos c] at h; cases h

set_option maxHeartbeats 8000000 in
set_option maxRecDepth 100000 in
theorem draws_walk (m : ByteArray) (u hh q a b : Int) (s : Option Addr) (k c : Nat) (z : Nat → Bool) (y : Int) (t : Option Addr) (n d : Nat) (L : Nat → Int) (kind : Int) (w : World)
    (hm : m.size ≤ 1048576) (hs : IsBools w s k c z) (hkc : k ≤ c) (ht : IsNums w t n d L) (hn : n ≤ 1048576) (hnd : n ≤ d) (hd : d ≤ 9223372036854775807) :
    Calls Tryd.prog 3 #[.string m, .int .i64 u, .int .i64 hh, .int .i64 q, .agg #[.int .i64 a, .int .i64 b, .slice s k c], .int .i64 y, .slice t n d, .int .i64 kind] w fun e w' => e = .returned (.bool true) ∧ Below w.heap.size w w' := by
  have HS := Lib.hid hs
  have HT := Lib.hid ht
  have DR := Lib.hid (fun wx => draw_any m u hh q wx hm)
  clear hs ht
  go_enter Tryd.func3, Tryd.ntmps3
  go_upto_region 1 with fail
  obtain ⟨w1, hw1⟩ : ∃ w1, w1 = ((((w.alloc (.cells #[.string m] 9)).alloc (.cells #[.int .i64 u] 3)).alloc (.cells #[.int .i64 hh] 3)).alloc (.cells #[.int .i64 q] 3)).alloc (.cells #[.int .i64 a, .int .i64 b, .slice s k c] 24) := ⟨_, rfl⟩
  have B1 : Below w.heap.size w w1 := by rw [hw1]; exact below_alloc (below_alloc (below_alloc (below_alloc (new_below _ _) _) _) _) _
  have AR := Lib.hid (show ArgsAt w1 w.heap.size m u hh q a b s k c by
    rw [hw1]
    refine ⟨?_, ?_, ?_, ?_, ?_, ?_, ?_⟩ <;> go_simp)
  have HB1 := Lib.hid B1
  rw [← hw1]
  clear hw1 B1
  obtain ⟨c1, c2, c3, c4, c5, c6, c7⟩ := AR.out
  go_wp2_with fail
  refine (DR.out w1).mono ?_
  rintro e w2 ⟨x0, y0, ps, pn, pc, rfl, hdr, hb2⟩
  have AR2 := Lib.hid (AR.out.later hb2)
  have B2 := Lib.hid (below_step HB1.out hb2)
  have HDR := Lib.hid hdr
  clear hb2 hdr c1 c2 c3 c4 c5 c6 c7 AR HB1 DR
  go_upto_region 2 with fail
  obtain ⟨w3, hw3⟩ : ∃ w3, w3 = w2.alloc (.cells #[.int .i64 x0, .int .i64 y0, .slice ps pn pc] 24) := ⟨_, rfl⟩
  have hb3 : Below w2.heap.size w2 w3 := by rw [hw3]; exact new_below _ _
  obtain ⟨g0, g1, g2, _, _, _⟩ := block3 (w := w3) (b := w2.heap.size) (x := .int .i64 x0) (y := .int .i64 y0) (z := .slice ps pn pc) (t := 24) (by rw [hw3]; exact heap_alloc_new _ _)
  have ST := Lib.hid (show DwSt w m u hh q a b s k c w2.heap.size w3 from ⟨AR2.out.later hb3, ⟨x0, y0, ps, pn, pc, g0, g1, g2, HDR.out.later hb3⟩, below_step B2.out hb3⟩)
  rw [← hw3]
  clear hw3 hb3 g0 g1 g2 AR2 B2 HDR
  obtain ⟨c1, c2, c3, c4, c5, c6, c7⟩ := ST.out.1
  have hms : m.size ≤ 9223372036854775807 := by omega
  go_wp2_with fail
  go_loop [19, 37] (fun v19 i => ∃ kk : Nat, kk ≤ m.size ∧ i = .int .i64 kk ∧ v19 = .bool (preB m kk)) (fun _ i => m.size - (intOf i).toNat)
  case atStart => exact ⟨0, Nat.zero_le _, rfl, rfl⟩
  case round =>
    obtain ⟨kk, hkk, rfl, rfl⟩ := hrel
    by_cases hlt : kk < m.size
    · have HPB := Lib.hid (show preB m (kk + 1) = (preB m kk && (decide (byteAt m kk = 48) || decide (byteAt m kk = 49))) from rfl)
      have hbt := byteAt_get m kk hlt
      rw [← hbt] at HPB
      obtain ⟨pb, hpb⟩ : ∃ pb, pb = preB m kk := ⟨_, rfl⟩
      rw [← hpb] at HPB
      rw [← hpb]
      have i1 : (kk : Int) < (m.size : Int) := by omega
      clear hpb hbt
      cases pb
      · go_wp2_with fail
        go_round
        case rel => exact ⟨kk + 1, by omega, by go_num, by rw [HPB.out]; rfl⟩
        case measure => simp [intOf]; omega
      · by_cases h48 : ((m[kk]'hlt).toNat : Int) = 48
        · have HP2 := Lib.hid (show preB m (kk + 1) = true by rw [HPB.out, decide_eq_true h48]; rfl)
          go_wp2_with fail
          go_round
          case rel => exact ⟨kk + 1, by omega, by go_num, by rw [HP2.out]⟩
          case measure => simp [intOf]; omega
        · have h48' : (((m[kk]'hlt).toNat : Int) == 48) = false := by simpa using h48
          have HP2 := Lib.hid (show preB m (kk + 1) = decide (((m[kk]'hlt).toNat : Int) = 49) by rw [HPB.out, decide_eq_false h48]; rfl)
          go_wp2_with fail
          go_round
          case rel => exact ⟨kk + 1, by omega, by go_num, by rw [HP2.out]; rfl⟩
          case measure => simp [intOf]; omega
    · obtain rfl : kk = m.size := by omega
      rw [preB_all]
      clear c1 c2 c3 c4 c5 c6 c7
      go_upto_region 8 with fail
      go_cut [21] from 54 to 76 (fun v21 wx => v21 = .int .i64 (drawErr0 m u hh q) ∧ Hid (Below w3.heap.size w3 wx))
      case first =>
        obtain ⟨c1, c2, c3, c4, c5, c6, c7⟩ := ST.out.1
        by_cases a1 : 1 ≤ u ∧ u ≤ 8
        · by_cases a2 : 1 ≤ hh ∧ hh ≤ 4000
          · by_cases a3 : 0 ≤ q ∧ q ≤ 200
            · have HE := Lib.hid (want0 m u hh q true (by simp [a1, a2, a3]))
              have A1 := Lib.hid a1
              have A2 := Lib.hid a2
              have A3 := Lib.hid a3
              clear a1 a2 a3 c5 c6 c7
              refine wp_region_still_tail 20 (by kernel_rfl) (by kernel_rfl) ?_
              simp only [List.take_succ_cons, List.take_zero, List.drop_succ_cons, List.drop_zero]
              still_step
              still_step
              still_call ((when_any _ _ _).mono (fun _ _ h => ⟨h.1, h.2.symm⟩))
              still_step
              still_step
              still_call ((when_any _ _ _).mono (fun _ _ h => ⟨h.1, h.2.symm⟩))
              still_step
              still_call ((in_yes u 1 8 _ A1.out).mono (fun _ _ h => ⟨h.1, h.2.symm⟩))
              still_step
              still_step
              still_step
              still_call ((in_yes hh 1 4000 _ A2.out).mono (fun _ _ h => ⟨h.1, h.2.symm⟩))
              still_step
              still_step
              still_step
              still_step
              still_call ((in_yes q 0 200 _ A3.out).mono (fun _ _ h => ⟨h.1, h.2.symm⟩))
              still_step
              still_step
              still_call ((when_any _ _ _).mono (fun _ _ h => ⟨h.1, h.2.symm⟩))
              refine wpStill_nil ?_
              change wpList _ _ _ _ _ w3.drew
              have hdb : Below w3.heap.size w3 w3.drew := (Below.refl _ _).drew
              obtain ⟨wd, hwd⟩ : ∃ wd, wd = w3.drew := ⟨_, rfl⟩
              rw [← hwd] at hdb ⊢
              clear hwd
              go_wp2_with (first | (go_at_call 5; ((with_reducible refine (firstD_new _ _ _ wd).mono ?_); rintro e w' ⟨rfl, rfl⟩)))
              go_meet
              case rel => exact ⟨by rw [← HE.out]; rfl, Lib.hid (below_alloc hdb _)⟩
            · have HE := Lib.hid (want0 m u hh q false (by simp [a1, a2, a3]))
              have A1 := Lib.hid a1
              have A2 := Lib.hid a2
              have A3 := Lib.hid a3
              clear a1 a2 a3 c5 c6 c7
              refine wp_region_still_tail 20 (by kernel_rfl) (by kernel_rfl) ?_
              simp only [List.take_succ_cons, List.take_zero, List.drop_succ_cons, List.drop_zero]
              still_step
              still_step
              still_call ((when_any _ _ _).mono (fun _ _ h => ⟨h.1, h.2.symm⟩))
              still_step
              still_step
              still_call ((when_any _ _ _).mono (fun _ _ h => ⟨h.1, h.2.symm⟩))
              still_step
              still_call ((in_yes u 1 8 _ A1.out).mono (fun _ _ h => ⟨h.1, h.2.symm⟩))
              still_step
              still_step
              still_step
              still_call ((in_yes hh 1 4000 _ A2.out).mono (fun _ _ h => ⟨h.1, h.2.symm⟩))
              still_step
              still_step
              still_step
              still_step
              still_call ((in_no q 0 200 _ A3.out).mono (fun _ _ h => ⟨h.1, h.2.symm⟩))
              still_step
              still_step
              still_call ((when_any _ _ _).mono (fun _ _ h => ⟨h.1, h.2.symm⟩))
              refine wpStill_nil ?_
              change wpList _ _ _ _ _ w3.drew
              have hdb : Below w3.heap.size w3 w3.drew := (Below.refl _ _).drew
              obtain ⟨wd, hwd⟩ : ∃ wd, wd = w3.drew := ⟨_, rfl⟩
              rw [← hwd] at hdb ⊢
              clear hwd
              go_wp2_with (first | (go_at_call 5; ((with_reducible refine (firstD_new _ _ _ wd).mono ?_); rintro e w' ⟨rfl, rfl⟩)))
              go_meet
              case rel => exact ⟨by rw [← HE.out]; rfl, Lib.hid (below_alloc hdb _)⟩
          · have HE := Lib.hid (want0 m u hh q false (by simp [a1, a2]))
            have A1 := Lib.hid a1
            have A2 := Lib.hid a2
            clear a1 a2 c5 c6 c7
            refine wp_region_still_tail 20 (by kernel_rfl) (by kernel_rfl) ?_
            simp only [List.take_succ_cons, List.take_zero, List.drop_succ_cons, List.drop_zero]
            still_step
            still_step
            still_call ((when_any _ _ _).mono (fun _ _ h => ⟨h.1, h.2.symm⟩))
            still_step
            still_step
            still_call ((when_any _ _ _).mono (fun _ _ h => ⟨h.1, h.2.symm⟩))
            still_step
            still_call ((in_yes u 1 8 _ A1.out).mono (fun _ _ h => ⟨h.1, h.2.symm⟩))
            still_step
            still_step
            still_step
            still_call ((in_no hh 1 4000 _ A2.out).mono (fun _ _ h => ⟨h.1, h.2.symm⟩))
            still_step
            still_step
            still_step
            still_step
            still_step
            still_step
            still_step
            still_call ((when_any _ _ _).mono (fun _ _ h => ⟨h.1, h.2.symm⟩))
            refine wpStill_nil ?_
            change wpList _ _ _ _ _ w3.drew
            have hdb : Below w3.heap.size w3 w3.drew := (Below.refl _ _).drew
            obtain ⟨wd, hwd⟩ : ∃ wd, wd = w3.drew := ⟨_, rfl⟩
            rw [← hwd] at hdb ⊢
            clear hwd
            go_wp2_with (first | (go_at_call 5; ((with_reducible refine (firstD_new _ _ _ wd).mono ?_); rintro e w' ⟨rfl, rfl⟩)))
            go_meet
            case rel => exact ⟨by rw [← HE.out]; rfl, Lib.hid (below_alloc hdb _)⟩
        · have HE := Lib.hid (want0 m u hh q false (by simp [a1]))
          have A1 := Lib.hid a1
          clear a1 c5 c6 c7
          refine wp_region_still_tail 20 (by kernel_rfl) (by kernel_rfl) ?_
          simp only [List.take_succ_cons, List.take_zero, List.drop_succ_cons, List.drop_zero]
          still_step
          still_step
          still_call ((when_any _ _ _).mono (fun _ _ h => ⟨h.1, h.2.symm⟩))
          still_step
          still_step
          still_call ((when_any _ _ _).mono (fun _ _ h => ⟨h.1, h.2.symm⟩))
          still_step
          still_call ((in_no u 1 8 _ A1.out).mono (fun _ _ h => ⟨h.1, h.2.symm⟩))
          still_step
          still_step
          still_step
          still_step
          still_step
          still_step
          still_step
          still_step
          still_step
          still_step
          still_step
          still_call ((when_any _ _ _).mono (fun _ _ h => ⟨h.1, h.2.symm⟩))
          refine wpStill_nil ?_
          change wpList _ _ _ _ _ w3.drew
          have hdb : Below w3.heap.size w3 w3.drew := (Below.refl _ _).drew
          obtain ⟨wd, hwd⟩ : ∃ wd, wd = w3.drew := ⟨_, rfl⟩
          rw [← hwd] at hdb ⊢
          clear hwd
          go_wp2_with (first | (go_at_call 5; ((with_reducible refine (firstD_new _ _ _ wd).mono ?_); rintro e w' ⟨rfl, rfl⟩)))
          go_meet
          case rel => exact ⟨by rw [← HE.out]; rfl, Lib.hid (below_alloc hdb _)⟩
      case rest =>
        obtain ⟨rfl, HB5⟩ := hcut
        obtain ⟨w5, rfl⟩ : ∃ w5 : World, w5 = wc := ⟨_, rfl⟩
        have ST5 := Lib.hid (ST.out.later HB5.out)
        clear HB5 ST
        obtain ⟨E0, hE0⟩ : ∃ E0, E0 = drawErr0 m u hh q := ⟨_, rfl⟩
        rw [← hE0]
        have HE0 := Lib.hid hE0
        clear hE0
        go_upto_if 77 with (fail)
        go_cut [21] from 77 to 87 (fun v21 wx => v21 = .int .i64 (drawErr m u hh q) ∧ Hid (Below w5.heap.size w5 wx))
        case first =>
          by_cases h0 : drawErr0 m u hh q = 0
          · obtain ⟨U, Q, H, rfl, rfl, rfl, e1, e2, e3, e4⟩ := err0_zero h0
            have SE := Lib.hid (fun wx => sizeError_any (2 * (Q : Int) + (U : Int) * (m.size : Int)) (H : Int) wx)
            rw [← e1] at SE
            have m1 : (U : Int) * (m.size : Int) = ((U * m.size : Nat) : Int) := by simp
            have m0 : U * m.size ≤ 8 * 1048576 := Nat.mul_le_mul e2.2 hm
            have m2 : 0 ≤ (U : Int) * (m.size : Int) := by rw [m1]; omega
            have m3 : (U : Int) * (m.size : Int) ≤ 8388608 := by rw [m1]; omega
            have m4 : (Q : Int) ≤ 200 := by omega
            obtain ⟨c1, c2, c3, c4, c5, c6, c7⟩ := ST5.out.1
            have c0 : (E0 == 0) = true := by rw [HE0.out, h0]; rfl
            clear m1 m0 e1 c5 c6 c7 h0
            go_wp2_with (go_at_call 8; refine (SE.out _).mono ?_; rintro e w6 ⟨rfl, hb6⟩)
            go_meet
            case rel => exact ⟨rfl, Lib.hid hb6⟩
          · have hd0 : drawErr m u hh q = E0 := by rw [HE0.out]; exact err0_same h0
            have h0' : (E0 == 0) = false := by rw [HE0.out]; simpa using h0
            have HD := Lib.hid hd0
            clear hd0 h0
            go_wp2_with fail
            go_meet
            case rel => exact ⟨by rw [HD.out], Lib.hid (Below.refl _ _)⟩
        case rest =>
          obtain ⟨rfl, HB6⟩ := hcut
          obtain ⟨w7, rfl⟩ : ∃ w7 : World, w7 = wc := ⟨_, rfl⟩
          have ST7 := Lib.hid (ST5.out.later HB6.out)
          clear HB6 ST5
          obtain ⟨E, hE⟩ : ∃ E, E = drawErr m u hh q := ⟨_, rfl⟩
          rw [← hE]
          have HE := Lib.hid hE
          clear hE
          by_cases hz : E = 0
          · subst hz
            have hz : (0 : Int) = 0 := rfl
            obtain ⟨hA, ⟨x, yy, ps1, pn1, pc1, g0, g1, g2, hdr⟩, hB⟩ := ST7.out
            rcases hdr with ⟨h1, _⟩ | ⟨_, U, Q, H, W, gp, cp, rfl, rfl, rfl, e4, e5, e6, e7, e8, e9, rfl, rfl, rfl, rfl, rfl, hcel⟩
            · exact absurd HE.out.symm h1
            have HZ := Lib.hid hz
            have HC := Lib.hid hcel
            have HDD := Lib.hid (show W = m.size * U + 2 * Q ∧ (1 ≤ U ∧ U ≤ 8) ∧ Q ≤ 200 ∧ (1 ≤ W ∧ W ≤ 4000) ∧ (1 ≤ H ∧ H ≤ 4000) ∧ W * H ≤ 1048576 from ⟨e4, e5, e6, e7, e8, e9⟩)
            have m1 : (m.size : Int) * (U : Int) = ((m.size * U : Nat) : Int) := by simp
            have n1 : m.size * U ≤ 4000 := by omega
            have m2 : 0 ≤ (m.size : Int) * (U : Int) := by rw [m1]; omega
            have m3 : (m.size : Int) * (U : Int) ≤ 4000 := by rw [m1]; omega
            have m4 : (m.size : Int) * (U : Int) * (H : Int) = ((m.size * U * H : Nat) : Int) := by simp
            have n2 : m.size * U * H ≤ 4000 * 4000 := Nat.mul_le_mul n1 e8.2
            have m5 : 0 ≤ (m.size : Int) * (U : Int) * (H : Int) := by rw [m4]; omega
            have m6 : (m.size : Int) * (U : Int) * (H : Int) ≤ 16000000 := by rw [m4]; omega
            obtain ⟨k1, k2, k3, k4, k5, k6, k7⟩ := hA
            have G := Lib.hid (show _ ∧ _ ∧ _ from ⟨g0, g1, g2⟩)
            clear hz hcel e4 e5 e6 e7 e8 e9 m1 m4 n1 n2 g0 g1 g2 k4 k5 k6 k7
            by_cases hbig : 20000 < (m.size : Int) * (U : Int) * (H : Int)
            · have BT := Lib.hid (bars_true w7)
              have B7 := Lib.hid hB
              clear hB
              go_wp2_with (go_at_call 9; refine BT.out.mono ?_; rintro e w8 ⟨rfl, hb8⟩)
              go_ret
              exact ⟨rfl, below_step B7.out hb8⟩
            · have BT := Lib.hid (bars_true w7)
              clear hB
              go_wp2_with fail
              refine BT.out.mono ?_
              rintro e w8 ⟨rfl, hb8⟩
              have ST8 := Lib.hid (ST7.out.later hb8)
              have g0 := cell_later hb8 G.out.1
              have g1 := cell_later hb8 G.out.2.1
              have g2 := cell_later hb8 G.out.2.2
              have HC8 := Lib.hid (fun j hj => cell_later hb8 (HC.out j hj))
              obtain ⟨d1, d2, d3, d4, d5, d6⟩ := HDD.out
              have BI := Lib.hid (bitsIs_ok (W : Int) (H : Int) gp 0 (W * H) pc1 11 #[.pointer (some ⟨w.heap.size, 0, none⟩), .pointer (some ⟨w.heap.size + 1, 0, none⟩), .pointer (some ⟨w.heap.size + 1 + 1, 0, none⟩), .pointer (some ⟨w.heap.size + 1 + 1 + 1, 0, none⟩)] (fun j => drawZ m Q U (j % W)) w8 (by omega)
                (Go.Proofs.enters_of Tryd.func11 (by kernel_rfl) rfl) HC8.out
                (fun wx hx => draws1_any m U Q H W _ _ _ _ wx d1 d2 d3 d4 d5 d6 (cell_later hx ST8.out.1.1) (cell_later hx ST8.out.1.2.1) (cell_later hx ST8.out.1.2.2.1) (cell_later hx ST8.out.1.2.2.2.1)))
              clear hb8 d1 d2 d3 d4 d5 d6 HC HC8 G BT k1 k2 k3 m2 m3 m5 m6 hbig
              go_wp2_with fail
              with_reducible refine BI.out.mono ?_
              rintro e w9 ⟨rfl, hb9⟩
              have AR9 := Lib.hid (ST8.out.1.later hb9)
              have B9 := Lib.hid (below_step ST8.out.2.2 hb9)
              clear hb9 BI g0 g1 g2 ST8 ST7
              by_cases hpe : pageErr a b k = 0
              · obtain ⟨W2, H2, rfl, rfl, hk2, p1, p2, h1, h2, hN2, he2⟩ := dw_page_nat hpe
                obtain ⟨gz, oz, rfl, hcz⟩ := isBools_cells HS.out (by rw [hk2]; exact Nat.mul_pos p1 h1)
                have HCZ := Lib.hid (fun j hj => cell_later B9.out (hcz j hj))
                by_cases hy : 0 ≤ y ∧ y ≤ (H2 : Int) - 1
                · obtain ⟨Y, rfl⟩ := Int.eq_ofNat_of_zero_le hy.1
                  have BR := Lib.hid (barRuns_ok W2 H2 k Y (Y * W2) gz oz c z w9 hpe ⟨p1, p2⟩ ⟨h1, h2⟩ hk2 (by omega) hkc (by omega) rfl HCZ.out)
                  obtain ⟨f1, f2, f3, f4, f5, f6, f7⟩ := AR9.out
                  have HK2 := Lib.hid hk2
                  have HPE := Lib.hid hpe
                  clear f1 f2 f3 f4 hcz hk2 hpe
                  go_wp2_with fail
                  with_reducible refine BR.out.mono ?_
                  rintro e w10 ⟨vr, rfl, hor, hb10⟩
                  have AR10 := Lib.hid (AR9.out.later hb10)
                  have B10 := Lib.hid (below_step B9.out hb10)
                  have HCZ10 := Lib.hid (fun j hj => cell_later hb10 (HCZ.out j hj))
                  have hYH := Lib.hid (show Y < H2 by omega)
                  have HOR := Lib.hid hor
                  have A1 := Lib.hid (show 0 ≤ (Y : Int) ∧ (Y : Int) ≤ IntKind.i64.wrap ((H2 : Int) - 1) from by rw [IntWalk.i64_in _ (by omega)]; exact hy)
                  clear f5 f6 f7 hor hb10 BR HCZ AR9 B9 hy
                  go_upto_region 16 with fail
                  obtain ⟨f1, f2, f3, f4, f5, f6, f7⟩ := AR10.out
                  clear f1 f2 f3 f4
                  go_region_held3 (fun w' => w'.cell? ⟨w.heap.size + 1 + 1 + 1 + 1, 0, none⟩ = some (.int .i64 W2) ∧ w'.cell? ⟨w.heap.size + 1 + 1 + 1 + 1, 1, none⟩ = some (.int .i64 H2) ∧ w'.cell? ⟨w.heap.size + 1 + 1 + 1 + 1, 2, none⟩ = some (.slice (some ⟨gz, oz, none⟩) k c))
                    (first | (go_keep; done) | (go_split_ands; exact ⟨cell_later hbE (by assumption), cell_later hbE (by assumption), cell_later hbE (by assumption)⟩))
                    ((first | (go_at_call 14; ((with_reducible refine (bitsError_any _ _ _ _ _ _).mono ?_); rintro e wE ⟨rfl, hbE⟩)) | (go_at_call 7; ((with_reducible refine (in_yes (Y : Int) 0 (IntKind.i64.wrap ((H2 : Int) - 1)) _ A1.out).mono ?_); rintro e w' ⟨rfl, rfl⟩)) | (go_at_call 6; refine (when_any _ _ _).mono ?_; rintro e w' ⟨rfl, rfl⟩) | (go_at_call 5; refine (first2_new _ _ _).mono ?_; rintro e w' ⟨rfl, rfl⟩)))
                  obtain ⟨w11, hw11⟩ : ∃ w11, w11 = wE.alloc (.cells #[.int .i64 (pageErr (W2 : Int) (H2 : Int) k), .int .i64 (whenI false 13)] 26) := ⟨_, rfl⟩
                  have hb11 : Below w10.heap.size w10 w11 := by rw [hw11]; exact below_step ((Below.refl _ _).drew.trans (hbE.mono (Nat.le_refl _))) (new_below _ _)
                  rw [show orI (pageErr (W2 : Int) (H2 : Int) k) (whenI false 13) = 0 from by rw [HPE.out]; rfl]
                  rw [← hw11]
                  have AR11 := Lib.hid (AR10.out.later hb11)
                  have B11 := Lib.hid (below_step B10.out hb11)
                  have O11 := Lib.hid (below_owns HOR.out hb11)
                  have RR := Lib.hid (show _ from by
                    have h := runsOfR_at W2 H2 Y (Y * W2) gz oz c z (fun j => z (Y * W2 + j)) w11 (fun _ => rfl) ⟨p1, p2⟩ h2 (by have := hYH.out; omega) rfl (by rw [← HK2.out]; exact fun j hj => cell_later hb11 (HCZ10.out j hj))
                    rw [← HK2.out] at h
                    exact h)
                  obtain ⟨x, hor⟩ : ∃ x, x = (runsL (fun j => z (Y * W2 + j)) W2) := ⟨_, rfl⟩
                  have HX := Lib.hid (show x.length ≤ W2 + 1 from by rw [hor]; exact dq_len _ _)
                  rw [← hor] at O11 RR
                  clear hor f5 f6 f7 hbE hw11 hb11 HOR AR10 B10 A1 HCZ10
                  obtain ⟨f1, f2, f3, f4, f5, f6, f7⟩ := AR11.out
                  obtain ⟨ar, cr, rfl⟩ := dq_shape O11.out
                  clear f1 f2 f3 f4
                  go_wp2_with (go_at_call 16; refine RR.out.mono ?_; rintro e w12 ⟨v12, rfl, ho12, hb12⟩)
                  have E12 := Lib.hid (dq_owned (show x.length ≤ 100000000 by have := HX.out; omega) (below_owns O11.out hb12) ho12)
                  have B12 := Lib.hid (below_step B11.out hb12)
                  clear ho12 hb12 O11 RR f5 f6 f7 AR11 B11
                  go_wp2_with (go_at_call 15; refine E12.out.mono ?_; rintro e w13 ⟨rfl, q13, rfl⟩)
                  have B13 := Lib.hid (below_drewN B12.out q13)
                  obtain ⟨w13, hw13⟩ : ∃ w13, w13 = w12.drewN q13 := ⟨_, rfl⟩
                  rw [← hw13] at B13 ⊢
                  clear hw13 E12 B12
                  have UN := Lib.hid (units_any t n d kind L w13 hn hnd hd (isNums_hid HT.out B13.out))
                  obtain ⟨us, ue, hus⟩ := unV_shape L n kind
                  rw [hus] at UN
                  go_wp2_with (go_at_call 17; refine UN.out.mono ?_; rintro e w14 ⟨rfl, hb14⟩)
                  have UR := Lib.hid (unitsR_any t n d kind L w14 hn hnd hd (isNums_hid HT.out (below_step B13.out hb14)))
                  rw [hus] at UR
                  have B14 := Lib.hid (below_step B13.out hb14)
                  clear hb14 UN hus B13
                  go_wp2_with (go_at_call 18; refine UR.out.mono ?_; rintro e w15 ⟨rfl, hb15⟩)
                  go_ret
                  exact ⟨by simp, below_step B14.out hb15⟩
                · have BR := Lib.hid (barRuns_place W2 H2 (some ⟨gz, oz, none⟩) k c y w9 hpe ⟨h1, h2⟩ hy)
                  have A1 := Lib.hid (show ¬ (0 ≤ y ∧ y ≤ IntKind.i64.wrap ((H2 : Int) - 1)) from by rw [IntWalk.i64_in _ (by omega)]; exact hy)
                  have HPE := Lib.hid hpe
                  obtain ⟨f1, f2, f3, f4, f5, f6, f7⟩ := AR9.out
                  clear f1 f2 f3 f4 hcz hk2 hpe hy HCZ
                  go_wp2_with fail
                  with_reducible refine BR.out.mono ?_
                  rintro e w10 ⟨rfl, hb10⟩
                  have AR10 := Lib.hid (AR9.out.later hb10)
                  have B10 := Lib.hid (below_step B9.out hb10)
                  clear f5 f6 f7 hb10 BR AR9 B9
                  go_upto_region 16 with fail
                  obtain ⟨f1, f2, f3, f4, f5, f6, f7⟩ := AR10.out
                  clear f1 f2 f3 f4
                  go_region_held3 (fun w' => w'.cell? ⟨w.heap.size + 1 + 1 + 1 + 1, 0, none⟩ = some (.int .i64 W2) ∧ w'.cell? ⟨w.heap.size + 1 + 1 + 1 + 1, 1, none⟩ = some (.int .i64 H2) ∧ w'.cell? ⟨w.heap.size + 1 + 1 + 1 + 1, 2, none⟩ = some (.slice (some ⟨gz, oz, none⟩) k c))
                    (first | (go_keep; done) | (go_split_ands; exact ⟨cell_later hbE (by assumption), cell_later hbE (by assumption), cell_later hbE (by assumption)⟩))
                    ((first | (go_at_call 14; ((with_reducible refine (bitsError_any _ _ _ _ _ _).mono ?_); rintro e wE ⟨rfl, hbE⟩)) | (go_at_call 7; ((with_reducible refine (in_no y 0 (IntKind.i64.wrap ((H2 : Int) - 1)) _ A1.out).mono ?_); rintro e w' ⟨rfl, rfl⟩)) | (go_at_call 6; refine (when_any _ _ _).mono ?_; rintro e w' ⟨rfl, rfl⟩) | (go_at_call 5; refine (first2_new _ _ _).mono ?_; rintro e w' ⟨rfl, rfl⟩)))
                  obtain ⟨w13, hw13⟩ : ∃ w13, w13 = wE.alloc (.cells #[.int .i64 (pageErr (W2 : Int) (H2 : Int) k), .int .i64 (whenI true 13)] 26) := ⟨_, rfl⟩
                  have hb13 : Below w10.heap.size w10 w13 := by rw [hw13]; exact below_step ((Below.refl _ _).drew.trans (hbE.mono (Nat.le_refl _))) (new_below _ _)
                  rw [show orI (pageErr (W2 : Int) (H2 : Int) k) (whenI true 13) = 13 from by rw [HPE.out]; rfl]
                  rw [← hw13]
                  have B13 := Lib.hid (below_step B10.out hb13)
                  clear f5 f6 f7 hbE hw13 hb13 AR10 B10 A1
                  have UN := Lib.hid (units_any t n d kind L w13 hn hnd hd (isNums_hid HT.out B13.out))
                  obtain ⟨us, ue, hus⟩ := unV_shape L n kind
                  rw [hus] at UN
                  go_wp2_with (go_at_call 17; refine UN.out.mono ?_; rintro e w14 ⟨rfl, hb14⟩)
                  have UR := Lib.hid (unitsR_any t n d kind L w14 hn hnd hd (isNums_hid HT.out (below_step B13.out hb14)))
                  rw [hus] at UR
                  have B14 := Lib.hid (below_step B13.out hb14)
                  clear hb14 UN hus B13
                  go_wp2_with (go_at_call 18; refine UR.out.mono ?_; rintro e w15 ⟨rfl, hb15⟩)
                  go_ret
                  exact ⟨by simp, below_step B14.out hb15⟩
              · have BR := Lib.hid (barRuns_page a b s k c y w9 hpe)
                obtain ⟨P, hP⟩ : ∃ P, P = pageErr a b k := ⟨_, rfl⟩
                rw [← hP] at BR hpe
                have HP := Lib.hid hP
                have P0 : (P == 0) = false := by simpa using hpe
                have P2 : (P != 0) = true := by simpa using hpe
                have HPE := Lib.hid hpe
                obtain ⟨f1, f2, f3, f4, f5, f6, f7⟩ := AR9.out
                clear f1 f2 f3 f4 hP hpe
                go_wp2_with fail
                with_reducible refine BR.out.mono ?_
                rintro e w10 ⟨rfl, hb10⟩
                have AR10 := Lib.hid (AR9.out.later hb10)
                have B10 := Lib.hid (below_step B9.out hb10)
                clear f5 f6 f7 hb10 BR AR9 B9
                go_upto_region 16 with fail
                obtain ⟨f1, f2, f3, f4, f5, f6, f7⟩ := AR10.out
                clear f1 f2 f3 f4
                obtain ⟨bw, hbw⟩ : ∃ bw : Bool, bw = decide (0 ≤ y ∧ y ≤ IntKind.i64.wrap (b - 1)) := ⟨_, rfl⟩
                have IN := Lib.hid (fun wx => in_any y 0 (IntKind.i64.wrap (b - 1)) wx)
                rw [← hbw] at IN
                clear hbw
                go_region_held3 (fun w' => w'.cell? ⟨w.heap.size + 1 + 1 + 1 + 1, 0, none⟩ = some (.int .i64 a) ∧ w'.cell? ⟨w.heap.size + 1 + 1 + 1 + 1, 1, none⟩ = some (.int .i64 b) ∧ w'.cell? ⟨w.heap.size + 1 + 1 + 1 + 1, 2, none⟩ = some (.slice s k c))
                  (first | (go_keep; done) | (go_split_ands; exact ⟨cell_later hbE (by assumption), cell_later hbE (by assumption), cell_later hbE (by assumption)⟩))
                  ((first | (go_at_call 14; ((with_reducible refine (bitsError_any _ _ _ _ _ _).mono ?_); rintro e wE ⟨rfl, hbE⟩)) | (go_at_call 7; ((with_reducible refine (IN.out _).mono ?_); rintro e w' ⟨rfl, rfl⟩)) | (go_at_call 6; refine (when_any _ _ _).mono ?_; rintro e w' ⟨rfl, rfl⟩) | (go_at_call 5; refine (first2_new _ _ _).mono ?_; rintro e w' ⟨rfl, rfl⟩)))
                obtain ⟨w13, hw13⟩ : ∃ w13, w13 = wE.alloc (.cells #[.int .i64 (pageErr a b k), .int .i64 (whenI (!bw) 13)] 26) := ⟨_, rfl⟩
                have hb13 : Below w10.heap.size w10 w13 := by rw [hw13]; exact below_step ((Below.refl _ _).drew.trans (hbE.mono (Nat.le_refl _))) (new_below _ _)
                rw [show orI (pageErr a b k) (whenI (!bw) 13) = P from by rw [← HP.out]; unfold orI; rw [if_neg HPE.out]]
                rw [← hw13]
                have B13 := Lib.hid (below_step B10.out hb13)
                clear f5 f6 f7 hbE hw13 hb13 AR10 B10 IN HPE HP
                have UN := Lib.hid (units_any t n d kind L w13 hn hnd hd (isNums_hid HT.out B13.out))
                obtain ⟨us, ue, hus⟩ := unV_shape L n kind
                rw [hus] at UN
                go_wp2_with (go_at_call 17; refine UN.out.mono ?_; rintro e w14 ⟨rfl, hb14⟩)
                have UR := Lib.hid (unitsR_any t n d kind L w14 hn hnd hd (isNums_hid HT.out (below_step B13.out hb14)))
                rw [hus] at UR
                have B14 := Lib.hid (below_step B13.out hb14)
                clear hb14 UN hus B13
                go_wp2_with (go_at_call 18; refine UR.out.mono ?_; rintro e w15 ⟨rfl, hb15⟩)
                go_ret
                exact ⟨by simp, below_step B14.out hb15⟩
          · have c0 : (E == 0) = false := by simpa using hz
            obtain ⟨hA, ⟨x, yy, ps1, pn1, pc1, g0, g1, g2, hdr⟩, hB⟩ := ST7.out
            rcases hdr with ⟨_, rfl, rfl, rfl, rfl, rfl⟩ | ⟨h1, _⟩
            rotate_left
            · exact absurd (HE.out.trans h1) hz
            have BT := Lib.hid (bars_true w7)
            have HZ := Lib.hid hz
            have G := Lib.hid (show _ ∧ _ ∧ _ from ⟨g0, g1, g2⟩)
            clear hA hB g0 g1 g2 hz
            go_wp2_with fail
            refine BT.out.mono ?_
            rintro e w8 ⟨rfl, hb8⟩
            have ST8 := Lib.hid (ST7.out.later hb8)
            have g0 := cell_later hb8 G.out.1
            have g1 := cell_later hb8 G.out.2.1
            have g2 := cell_later hb8 G.out.2.2
            have BI := Lib.hid (fun cl => bitsIs_err E cl w8 HZ.out)
            clear hb8 BT G
            go_wp2_with fail
            with_reducible refine (BI.out _).mono ?_
            rintro e w9 ⟨rfl, hb9⟩
            have AR9 := Lib.hid (ST8.out.1.later hb9)
            have B9 := Lib.hid (below_step ST8.out.2.2 hb9)
            clear hb9 BI g0 g1 g2 ST8 ST7
            by_cases hpe : pageErr a b k = 0
            · obtain ⟨W2, H2, rfl, rfl, hk2, p1, p2, h1, h2, hN2, he2⟩ := dw_page_nat hpe
              obtain ⟨gz, oz, rfl, hcz⟩ := isBools_cells HS.out (by rw [hk2]; exact Nat.mul_pos p1 h1)
              have HCZ := Lib.hid (fun j hj => cell_later B9.out (hcz j hj))
              by_cases hy : 0 ≤ y ∧ y ≤ (H2 : Int) - 1
              · obtain ⟨Y, rfl⟩ := Int.eq_ofNat_of_zero_le hy.1
                have BR := Lib.hid (barRuns_ok W2 H2 k Y (Y * W2) gz oz c z w9 hpe ⟨p1, p2⟩ ⟨h1, h2⟩ hk2 (by omega) hkc (by omega) rfl HCZ.out)
                obtain ⟨f1, f2, f3, f4, f5, f6, f7⟩ := AR9.out
                have HK2 := Lib.hid hk2
                have HPE := Lib.hid hpe
                clear f1 f2 f3 f4 hcz hk2 hpe
                go_wp2_with fail
                with_reducible refine BR.out.mono ?_
                rintro e w10 ⟨vr, rfl, hor, hb10⟩
                have AR10 := Lib.hid (AR9.out.later hb10)
                have B10 := Lib.hid (below_step B9.out hb10)
                have HCZ10 := Lib.hid (fun j hj => cell_later hb10 (HCZ.out j hj))
                have hYH := Lib.hid (show Y < H2 by omega)
                have HOR := Lib.hid hor
                have A1 := Lib.hid (show 0 ≤ (Y : Int) ∧ (Y : Int) ≤ IntKind.i64.wrap ((H2 : Int) - 1) from by rw [IntWalk.i64_in _ (by omega)]; exact hy)
                clear f5 f6 f7 hor hb10 BR HCZ AR9 B9 hy
                go_upto_region 16 with fail
                obtain ⟨f1, f2, f3, f4, f5, f6, f7⟩ := AR10.out
                clear f1 f2 f3 f4
                go_region_held3 (fun w' => w'.cell? ⟨w.heap.size + 1 + 1 + 1 + 1, 0, none⟩ = some (.int .i64 W2) ∧ w'.cell? ⟨w.heap.size + 1 + 1 + 1 + 1, 1, none⟩ = some (.int .i64 H2) ∧ w'.cell? ⟨w.heap.size + 1 + 1 + 1 + 1, 2, none⟩ = some (.slice (some ⟨gz, oz, none⟩) k c))
                  (first | (go_keep; done) | (go_split_ands; exact ⟨cell_later hbE (by assumption), cell_later hbE (by assumption), cell_later hbE (by assumption)⟩))
                  ((first | (go_at_call 14; ((with_reducible refine (bitsError_any _ _ _ _ _ _).mono ?_); rintro e wE ⟨rfl, hbE⟩)) | (go_at_call 7; ((with_reducible refine (in_yes (Y : Int) 0 (IntKind.i64.wrap ((H2 : Int) - 1)) _ A1.out).mono ?_); rintro e w' ⟨rfl, rfl⟩)) | (go_at_call 6; refine (when_any _ _ _).mono ?_; rintro e w' ⟨rfl, rfl⟩) | (go_at_call 5; refine (first2_new _ _ _).mono ?_; rintro e w' ⟨rfl, rfl⟩)))
                obtain ⟨w11, hw11⟩ : ∃ w11, w11 = wE.alloc (.cells #[.int .i64 (pageErr (W2 : Int) (H2 : Int) k), .int .i64 (whenI false 13)] 26) := ⟨_, rfl⟩
                have hb11 : Below w10.heap.size w10 w11 := by rw [hw11]; exact below_step ((Below.refl _ _).drew.trans (hbE.mono (Nat.le_refl _))) (new_below _ _)
                rw [show orI (pageErr (W2 : Int) (H2 : Int) k) (whenI false 13) = 0 from by rw [HPE.out]; rfl]
                rw [← hw11]
                have AR11 := Lib.hid (AR10.out.later hb11)
                have B11 := Lib.hid (below_step B10.out hb11)
                have O11 := Lib.hid (below_owns HOR.out hb11)
                have RR := Lib.hid (show _ from by
                  have h := runsOfR_at W2 H2 Y (Y * W2) gz oz c z (fun j => z (Y * W2 + j)) w11 (fun _ => rfl) ⟨p1, p2⟩ h2 (by have := hYH.out; omega) rfl (by rw [← HK2.out]; exact fun j hj => cell_later hb11 (HCZ10.out j hj))
                  rw [← HK2.out] at h
                  exact h)
                obtain ⟨x, hor⟩ : ∃ x, x = (runsL (fun j => z (Y * W2 + j)) W2) := ⟨_, rfl⟩
                have HX := Lib.hid (show x.length ≤ W2 + 1 from by rw [hor]; exact dq_len _ _)
                rw [← hor] at O11 RR
                clear hor f5 f6 f7 hbE hw11 hb11 HOR AR10 B10 A1 HCZ10
                obtain ⟨f1, f2, f3, f4, f5, f6, f7⟩ := AR11.out
                obtain ⟨ar, cr, rfl⟩ := dq_shape O11.out
                clear f1 f2 f3 f4
                go_wp2_with (go_at_call 16; refine RR.out.mono ?_; rintro e w12 ⟨v12, rfl, ho12, hb12⟩)
                have E12 := Lib.hid (dq_owned (show x.length ≤ 100000000 by have := HX.out; omega) (below_owns O11.out hb12) ho12)
                have B12 := Lib.hid (below_step B11.out hb12)
                clear ho12 hb12 O11 RR f5 f6 f7 AR11 B11
                go_wp2_with (go_at_call 15; refine E12.out.mono ?_; rintro e w13 ⟨rfl, q13, rfl⟩)
                have B13 := Lib.hid (below_drewN B12.out q13)
                obtain ⟨w13, hw13⟩ : ∃ w13, w13 = w12.drewN q13 := ⟨_, rfl⟩
                rw [← hw13] at B13 ⊢
                clear hw13 E12 B12
                have UN := Lib.hid (units_any t n d kind L w13 hn hnd hd (isNums_hid HT.out B13.out))
                obtain ⟨us, ue, hus⟩ := unV_shape L n kind
                rw [hus] at UN
                go_wp2_with (go_at_call 17; refine UN.out.mono ?_; rintro e w14 ⟨rfl, hb14⟩)
                have UR := Lib.hid (unitsR_any t n d kind L w14 hn hnd hd (isNums_hid HT.out (below_step B13.out hb14)))
                rw [hus] at UR
                have B14 := Lib.hid (below_step B13.out hb14)
                clear hb14 UN hus B13
                go_wp2_with (go_at_call 18; refine UR.out.mono ?_; rintro e w15 ⟨rfl, hb15⟩)
                go_ret
                exact ⟨by simp, below_step B14.out hb15⟩
              · have BR := Lib.hid (barRuns_place W2 H2 (some ⟨gz, oz, none⟩) k c y w9 hpe ⟨h1, h2⟩ hy)
                have A1 := Lib.hid (show ¬ (0 ≤ y ∧ y ≤ IntKind.i64.wrap ((H2 : Int) - 1)) from by rw [IntWalk.i64_in _ (by omega)]; exact hy)
                have HPE := Lib.hid hpe
                obtain ⟨f1, f2, f3, f4, f5, f6, f7⟩ := AR9.out
                clear f1 f2 f3 f4 hcz hk2 hpe hy HCZ
                go_wp2_with fail
                with_reducible refine BR.out.mono ?_
                rintro e w10 ⟨rfl, hb10⟩
                have AR10 := Lib.hid (AR9.out.later hb10)
                have B10 := Lib.hid (below_step B9.out hb10)
                clear f5 f6 f7 hb10 BR AR9 B9
                go_upto_region 16 with fail
                obtain ⟨f1, f2, f3, f4, f5, f6, f7⟩ := AR10.out
                clear f1 f2 f3 f4
                go_region_held3 (fun w' => w'.cell? ⟨w.heap.size + 1 + 1 + 1 + 1, 0, none⟩ = some (.int .i64 W2) ∧ w'.cell? ⟨w.heap.size + 1 + 1 + 1 + 1, 1, none⟩ = some (.int .i64 H2) ∧ w'.cell? ⟨w.heap.size + 1 + 1 + 1 + 1, 2, none⟩ = some (.slice (some ⟨gz, oz, none⟩) k c))
                  (first | (go_keep; done) | (go_split_ands; exact ⟨cell_later hbE (by assumption), cell_later hbE (by assumption), cell_later hbE (by assumption)⟩))
                  ((first | (go_at_call 14; ((with_reducible refine (bitsError_any _ _ _ _ _ _).mono ?_); rintro e wE ⟨rfl, hbE⟩)) | (go_at_call 7; ((with_reducible refine (in_no y 0 (IntKind.i64.wrap ((H2 : Int) - 1)) _ A1.out).mono ?_); rintro e w' ⟨rfl, rfl⟩)) | (go_at_call 6; refine (when_any _ _ _).mono ?_; rintro e w' ⟨rfl, rfl⟩) | (go_at_call 5; refine (first2_new _ _ _).mono ?_; rintro e w' ⟨rfl, rfl⟩)))
                obtain ⟨w13, hw13⟩ : ∃ w13, w13 = wE.alloc (.cells #[.int .i64 (pageErr (W2 : Int) (H2 : Int) k), .int .i64 (whenI true 13)] 26) := ⟨_, rfl⟩
                have hb13 : Below w10.heap.size w10 w13 := by rw [hw13]; exact below_step ((Below.refl _ _).drew.trans (hbE.mono (Nat.le_refl _))) (new_below _ _)
                rw [show orI (pageErr (W2 : Int) (H2 : Int) k) (whenI true 13) = 13 from by rw [HPE.out]; rfl]
                rw [← hw13]
                have B13 := Lib.hid (below_step B10.out hb13)
                clear f5 f6 f7 hbE hw13 hb13 AR10 B10 A1
                have UN := Lib.hid (units_any t n d kind L w13 hn hnd hd (isNums_hid HT.out B13.out))
                obtain ⟨us, ue, hus⟩ := unV_shape L n kind
                rw [hus] at UN
                go_wp2_with (go_at_call 17; refine UN.out.mono ?_; rintro e w14 ⟨rfl, hb14⟩)
                have UR := Lib.hid (unitsR_any t n d kind L w14 hn hnd hd (isNums_hid HT.out (below_step B13.out hb14)))
                rw [hus] at UR
                have B14 := Lib.hid (below_step B13.out hb14)
                clear hb14 UN hus B13
                go_wp2_with (go_at_call 18; refine UR.out.mono ?_; rintro e w15 ⟨rfl, hb15⟩)
                go_ret
                exact ⟨by simp, below_step B14.out hb15⟩
            · have BR := Lib.hid (barRuns_page a b s k c y w9 hpe)
              obtain ⟨P, hP⟩ : ∃ P, P = pageErr a b k := ⟨_, rfl⟩
              rw [← hP] at BR hpe
              have HP := Lib.hid hP
              have P0 : (P == 0) = false := by simpa using hpe
              have P2 : (P != 0) = true := by simpa using hpe
              have HPE := Lib.hid hpe
              obtain ⟨f1, f2, f3, f4, f5, f6, f7⟩ := AR9.out
              clear f1 f2 f3 f4 hP hpe
              go_wp2_with fail
              with_reducible refine BR.out.mono ?_
              rintro e w10 ⟨rfl, hb10⟩
              have AR10 := Lib.hid (AR9.out.later hb10)
              have B10 := Lib.hid (below_step B9.out hb10)
              clear f5 f6 f7 hb10 BR AR9 B9
              go_upto_region 16 with fail
              obtain ⟨f1, f2, f3, f4, f5, f6, f7⟩ := AR10.out
              clear f1 f2 f3 f4
              obtain ⟨bw, hbw⟩ : ∃ bw : Bool, bw = decide (0 ≤ y ∧ y ≤ IntKind.i64.wrap (b - 1)) := ⟨_, rfl⟩
              have IN := Lib.hid (fun wx => in_any y 0 (IntKind.i64.wrap (b - 1)) wx)
              rw [← hbw] at IN
              clear hbw
              go_region_held3 (fun w' => w'.cell? ⟨w.heap.size + 1 + 1 + 1 + 1, 0, none⟩ = some (.int .i64 a) ∧ w'.cell? ⟨w.heap.size + 1 + 1 + 1 + 1, 1, none⟩ = some (.int .i64 b) ∧ w'.cell? ⟨w.heap.size + 1 + 1 + 1 + 1, 2, none⟩ = some (.slice s k c))
                (first | (go_keep; done) | (go_split_ands; exact ⟨cell_later hbE (by assumption), cell_later hbE (by assumption), cell_later hbE (by assumption)⟩))
                ((first | (go_at_call 14; ((with_reducible refine (bitsError_any _ _ _ _ _ _).mono ?_); rintro e wE ⟨rfl, hbE⟩)) | (go_at_call 7; ((with_reducible refine (IN.out _).mono ?_); rintro e w' ⟨rfl, rfl⟩)) | (go_at_call 6; refine (when_any _ _ _).mono ?_; rintro e w' ⟨rfl, rfl⟩) | (go_at_call 5; refine (first2_new _ _ _).mono ?_; rintro e w' ⟨rfl, rfl⟩)))
              obtain ⟨w13, hw13⟩ : ∃ w13, w13 = wE.alloc (.cells #[.int .i64 (pageErr a b k), .int .i64 (whenI (!bw) 13)] 26) := ⟨_, rfl⟩
              have hb13 : Below w10.heap.size w10 w13 := by rw [hw13]; exact below_step ((Below.refl _ _).drew.trans (hbE.mono (Nat.le_refl _))) (new_below _ _)
              rw [show orI (pageErr a b k) (whenI (!bw) 13) = P from by rw [← HP.out]; unfold orI; rw [if_neg HPE.out]]
              rw [← hw13]
              have B13 := Lib.hid (below_step B10.out hb13)
              clear f5 f6 f7 hbE hw13 hb13 AR10 B10 IN HPE HP
              have UN := Lib.hid (units_any t n d kind L w13 hn hnd hd (isNums_hid HT.out B13.out))
              obtain ⟨us, ue, hus⟩ := unV_shape L n kind
              rw [hus] at UN
              go_wp2_with (go_at_call 17; refine UN.out.mono ?_; rintro e w14 ⟨rfl, hb14⟩)
              have UR := Lib.hid (unitsR_any t n d kind L w14 hn hnd hd (isNums_hid HT.out (below_step B13.out hb14)))
              rw [hus] at UR
              have B14 := Lib.hid (below_step B13.out hb14)
              clear hb14 UN hus B13
              go_wp2_with (go_at_call 18; refine UR.out.mono ?_; rintro e w15 ⟨rfl, hb15⟩)
              go_ret
              exact ⟨by simp, below_step B14.out hb15⟩

end Go.Proofs.YthcmolhjncdnaaaDoor
