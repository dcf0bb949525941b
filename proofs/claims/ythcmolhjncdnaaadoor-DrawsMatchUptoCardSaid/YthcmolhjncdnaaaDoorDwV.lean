/-
  Units of Code 39: the pieces and the modules of a letter.
-/
import Derived.Test.YthcmolhjncdnaaaDoorDwU
import Derived.Test.YthcmolhjncdnaaaDoorShelf
namespace Go.Proofs.YthcmolhjncdnaaaDoor
open Go.RowKit
set_option linter.unusedSimpArgs false
set_option linter.unusedVariables false

/-- Nine runs from b on. -/
def nine (L : Nat → Int) (b : Nat) : List Int := (List.range 9).map fun j => L (b + j)
def loN (L : Nat → Int) (b : Nat) : Int := Lib.minOf (nine L b)
def hiN (L : Nat → Int) (b : Nat) : Int := Lib.maxOf (nine L b)
theorem minMax_in (zs : List Int) (h : ∀ z ∈ zs, 1 ≤ z ∧ z ≤ 4000) : ∀ k, 0 < k → k ≤ zs.length → (1 ≤ Lib.minOf (zs.take k) ∧ Lib.minOf (zs.take k) ≤ 4000) ∧ (1 ≤ Lib.maxOf (zs.take k) ∧ Lib.maxOf (zs.take k) ≤ 4000) := by
  intro k
  induction k with
  | zero => intro h0; omega
  | succ k ih =>
    intro _ hk
    have hz : ∀ i, i < zs.length → 1 ≤ zs.getD i 0 ∧ zs.getD i 0 ≤ 4000 := fun i hi => by
      have : zs.getD i 0 = zs[i] := by simp [List.getD, hi]
      rw [this]; exact h _ (List.getElem_mem hi)
    by_cases h0 : k = 0
    · subst h0
      rw [Nat.zero_add, Lib.minOf_one, Lib.maxOf_one]
      exact ⟨hz 0 (by omega), hz 0 (by omega)⟩
    · have a := ih (by omega) (by omega)
      have b := hz k (by omega)
      rw [Lib.minOf_step zs k (by omega) (by omega), Lib.maxOf_step zs k (by omega) (by omega)]
      omega
theorem nine_len (L : Nat → Int) (b : Nat) : (nine L b).length = 9 := by simp [nine]
theorem nine_in {L : Nat → Int} {b : Nat} (h : ∀ j, j < 9 → 1 ≤ L (b + j) ∧ L (b + j) ≤ 4000) : (1 ≤ loN L b ∧ loN L b ≤ 4000) ∧ (1 ≤ hiN L b ∧ hiN L b ≤ 4000) := by
  have := minMax_in (nine L b) (fun z hz => by
    obtain ⟨j, hj, rfl⟩ := List.mem_map.1 hz
    exact h j (by simpa using hj)) 9 (by omega) (by rw [nine_len]; exact Nat.le_refl _)
  rw [List.take_of_length_le (by rw [nine_len]; exact Nat.le_refl _)] at this
  exact this

theorem min9_any (g o c : Nat) (L : Nat → Int) (b : Nat) (w : World) (hp : ∀ j, j < 9 → w.cell? ⟨g, o + j, none⟩ = some (.int .i64 (L (b + j)))) :
    Calls Tryd.prog 37 #[.slice (some ⟨g, o, none⟩) 9 c] w fun e w' => e = .returned (.int .i64 (loN L b)) ∧ w = w' := by
  refine (Tryd.slices_Min_int g o 9 c (nine L b) w (by omega) (by rw [nine_len]; exact Nat.le_refl _) (by omega) (fun j hj => by rw [nine_len] at hj; rw [hp j hj]; simp [nine, List.getD, hj])).mono ?_
  rintro e w' ⟨rfl, rfl⟩
  rw [List.take_of_length_le (by rw [nine_len]; exact Nat.le_refl _)]
  exact ⟨rfl, rfl⟩
theorem max9_any (g o c : Nat) (L : Nat → Int) (b : Nat) (w : World) (hp : ∀ j, j < 9 → w.cell? ⟨g, o + j, none⟩ = some (.int .i64 (L (b + j)))) :
    Calls Tryd.prog 38 #[.slice (some ⟨g, o, none⟩) 9 c] w fun e w' => e = .returned (.int .i64 (hiN L b)) ∧ w = w' := by
  refine (Tryd.slices_Max_int g o 9 c (nine L b) w (by omega) (by rw [nine_len]; exact Nat.le_refl _) (by omega) (fun j hj => by rw [nine_len] at hj; rw [hp j hj]; simp [nine, List.getD, hj])).mono ?_
  rintro e w' ⟨rfl, rfl⟩
  rw [List.take_of_length_le (by rw [nine_len]; exact Nat.le_refl _)]
  exact ⟨rfl, rfl⟩

/-- Whether run j of the letter that begins at b is wide. -/
def wideB (L : Nat → Int) (b j : Nat) : Bool := decide (loN L b + hiN L b < 2 * L (b + j))
def pcByte (L : Nat → Int) (b j : Nat) : UInt8 := if wideB L b j then 119 else 110
/-- The nine bytes, the first k of which are told. -/
def pcRow (L : Nat → Int) (b k : Nat) : List UInt8 := (List.range 9).map fun j => if j < k then pcByte L b j else 0
theorem pcRow_get (L : Nat → Int) (b k j : Nat) (h : j < 9) : (bytesV (pcRow L b k))[j]? = some (.int .u8 ((if j < k then pcByte L b j else 0).toNat : Int)) := by simp [bytesV, pcRow, h]
theorem pcRow_set (L : Nat → Int) (b k : Nat) (h : k < 9) : (bytesV (pcRow L b k)).set k (.int .u8 ((pcByte L b k).toNat : Int)) = bytesV (pcRow L b (k + 1)) := by
  apply List.ext_getElem?
  intro i
  rw [List.getElem?_set]
  by_cases hi : i < 9
  · rw [pcRow_get L b k i hi, pcRow_get L b (k + 1) i hi]
    by_cases e : k = i
    · subst e
      rw [if_pos rfl, if_pos (by simp [bytesV, pcRow]; exact h), if_pos (Nat.lt_succ_self _)]
    · rw [if_neg e]
      by_cases h2 : i < k
      · rw [if_pos h2, if_pos (by omega)]
      · rw [if_neg h2, if_neg (by omega)]
  · rw [if_neg (by omega)]
    simp [bytesV, pcRow, hi]

set_option maxHeartbeats 2000000 in
set_option maxRecDepth 100000 in
theorem piecesOf_any (g o c b : Nat) (L : Nat → Int) (w : World) (hL : ∀ j, j < 9 → 1 ≤ L (b + j) ∧ L (b + j) ≤ 4000) (hp : ∀ j, j < 9 → w.cell? ⟨g, o + j, none⟩ = some (.int .i64 (L (b + j)))) :
    Calls Tryd.prog 55 #[.slice (some ⟨g, o, none⟩) 9 c] w fun e w' => e = .returned (.string ⟨(pcRow L b 9).toArray⟩) ∧ Below w.heap.size w w' := by
  obtain ⟨i0, hi, hz0, hz1, hz2⟩ := info_parts info_u8
  have MN := Lib.hid (min9_any g o c L b w hp)
  have MX := Lib.hid (max9_any g o c L b w hp)
  obtain ⟨⟨l1, l2⟩, l3, l4⟩ := nine_in hL
  have HWB := Lib.hid (show ∀ j, wideB L b j = decide (loN L b + hiN L b < 2 * L (b + j)) from fun _ => rfl)
  obtain ⟨lo, hlo⟩ : ∃ lo, lo = loN L b := ⟨_, rfl⟩
  obtain ⟨hi2, hhi⟩ : ∃ hi2, hi2 = hiN L b := ⟨_, rfl⟩
  rw [← hlo] at MN l1 l2 HWB
  rw [← hhi] at MX l3 l4 HWB
  have HP := Lib.hid hp
  have HL := Lib.hid hL
  clear hp hL hlo hhi
  go_enter Tryd.func55, Tryd.ntmps55
  go_wp2_with (first | (go_at_call 37; refine MN.out.mono ?_; rintro e w' ⟨rfl, rfl⟩) | (go_at_call 38; refine MX.out.mono ?_; rintro e w' ⟨rfl, rfl⟩) | (at_make; refine wpList_make_full _ rfl _ _ 71 rfl w.heap.size 5 i0 (.int .u8 0) 1 Tryd.underlying71 hi hz0 hz1 _ _ _ _ 9 rfl rfl rfl rfl (by rw [hz2]; omega) (by unfold maxLen; omega) (by simp) ?_))
  intro w1 hown1 hgrow1
  rw [toList_madeCells_one, show List.replicate 9 (Value.int .u8 0) = bytesV (pcRow L b 0) by simp [bytesV, pcRow]; rfl] at hown1
  have hb1 : Below w.heap.size w w1 := (Below.refl _ _).grown hgrow1 (Nat.le_refl _) (by simp)
  have P0 := Lib.hid (show _ ∧ _ from ⟨hown1, hb1⟩)
  clear hown1 hgrow1 hb1
  go_wp2_with fail
  go_loopw [17] (fun i wr => ∃ k : Nat, k ≤ 9 ∧ i = .int .i64 k ∧ Hid (wr.ownsRow w.heap.size 5 1 (.slice (some ⟨w.heap.size, 0, none⟩) 9 9) 9 (bytesV (pcRow L b k)) ∧ Below w.heap.size w wr)) (fun i _ => 9 - (intOf i).toNat)
  case atStart => exact ⟨0, Nat.zero_le _, rfl, P0⟩
  case round =>
    obtain ⟨k, hk, rfl, HR⟩ := hrel
    clear P0
    by_cases hlt : k < 9
    · have hc := cell_later HR.out.2 (HP.out k hlt)
      obtain ⟨x1, x2⟩ := HL.out k hlt
      have hcell := HR.out.1.cellAt k (by omega)
      rw [pcRow_get L b k k hlt, if_neg (Nat.lt_irrefl _)] at hcell
      have hcell0 : wr.cell? ⟨w.heap.size, k, none⟩ = some (.int .u8 0) := hcell
      have hfz := HR.out.1.frozenAt k
      have i1 : (k : Int) < 9 := by omega
      have HS := pcRow_set L b k hlt
      have HW := HWB.out k
      obtain ⟨x, hx⟩ : ∃ x, x = L (b + k) := ⟨_, rfl⟩
      rw [← hx] at hc x1 x2 HW
      by_cases hwd : lo + hi2 < 2 * x
      · have hpb : pcByte L b k = 119 := by unfold pcByte; rw [HW, decide_eq_true hwd]; rfl
        rw [hpb] at HS
        have H1 := Lib.hid (show ((wr.setCell ⟨w.heap.size, k, none⟩ (.int .u8 110)).setCell ⟨w.heap.size, k, none⟩ (.int .u8 119)).ownsRow w.heap.size 5 1 (.slice (some ⟨w.heap.size, 0, none⟩) 9 9) 9 (bytesV (pcRow L b (k + 1))) by
          have a := ((HR.out.1.stored k (.int .u8 110)).1.stored k (.int .u8 119)).1
          rw [List.set_set] at a
          rw [← HS]; exact a)
        have HB := Lib.hid HR.out.2
        clear HR HS HW hx hpb hcell
        go_wp2_with fail
        go_roundw
        case rel => exact ⟨k + 1, by omega, by go_num, Lib.hid ⟨H1.out, (HB.out.setCell (Nat.le_refl _) _).setCell (Nat.le_refl _) _⟩⟩
        case measure => simp [intOf]; omega
      · have hpb : pcByte L b k = 110 := by unfold pcByte; rw [HW, decide_eq_false hwd]; rfl
        rw [hpb] at HS
        have H1 := Lib.hid (show (wr.setCell ⟨w.heap.size, k, none⟩ (.int .u8 110)).ownsRow w.heap.size 5 1 (.slice (some ⟨w.heap.size, 0, none⟩) 9 9) 9 (bytesV (pcRow L b (k + 1))) by
          have a := (HR.out.1.stored k (.int .u8 110)).1
          rw [← HS]; exact a)
        have HB := Lib.hid HR.out.2
        clear HR HS HW hx hpb hcell
        go_wp2_with fail
        go_roundw
        case rel => exact ⟨k + 1, by omega, by go_num, Lib.hid ⟨H1.out, HB.out.setCell (Nat.le_refl _) _⟩⟩
        case measure => simp [intOf]; omega
    · obtain rfl : k = 9 := by omega
      have HO := HR.out.1
      have HB := Lib.hid HR.out.2
      have hln : (pcRow L b 9).length = 9 := by simp [pcRow]
      have hcv := bytes_text (l := pcRow L b 9) (c := 9) (g := w.heap.size) (N := w.heap.size) (w := wr) (by rw [hln]; exact HO)
      rw [hln] at hcv
      clear HO HR hln
      go_wp2_with fail
      go_ret
      exact ⟨rfl, HB.out⟩

/-- The modules of nine pieces. -/
def mdK (t : ByteArray) (i : Nat) : Nat := if byteAt t i = 119 then 3 else 1
theorem mdK_le (t : ByteArray) (i : Nat) : 1 ≤ mdK t i ∧ mdK t i ≤ 4 := by unfold mdK; split <;> omega

set_option maxHeartbeats 2000000 in
set_option maxRecDepth 100000 in
theorem modulesOf_any (t : ByteArray) (w : World) (h1 : 1 ≤ t.size) (h2 : t.size ≤ 1000) :
    Calls Tryd.prog 54 #[.string t] w fun e w' => e = .returned (.string ⟨(unL (mdK t) t.size).toArray⟩) ∧ Below w.heap.size w w' := by
  go_enter Tryd.func54, Tryd.ntmps54
  go_wp2_with fail
  go_loopw [3, 8] (fun v i wr => ∃ k : Nat, k ≤ t.size ∧ i = .int .i64 k ∧ Hid (wr.ownsRow w.heap.size 5 1 v (unL (mdK t) k).length (bytesV (unL (mdK t) k)) ∧ Below w.heap.size w wr)) (fun _ i _ => t.size - (intOf i).toNat)
  case atStart => exact ⟨0, Nat.zero_le _, rfl, Lib.hid ⟨World.ownsRow_nil _ _ _ _, Below.refl _ _⟩⟩
  case round =>
    obtain ⟨k, hk, rfl, HR⟩ := hrel
    obtain ⟨wo, rfl⟩ : ∃ wo : World, wo = wr := ⟨_, rfl⟩
    by_cases hlt : k < t.size
    · have HK := Lib.hid (show unL (mdK t) (k + 1) = unL (mdK t) k ++ List.replicate (mdK t k) (unB k) from rfl)
      have hbt := byteAt_get t k hlt
      have hmk : mdK t k = if ((t[k]'hlt).toNat : Int) = 119 then 3 else 1 := by rw [hbt]; rfl
      obtain ⟨l, hl⟩ : ∃ l, l = unL (mdK t) k := ⟨_, rfl⟩
      have hll : l.length ≤ 4 * k := by rw [hl]; exact unL_len (fun i => (mdK_le t i).2)
      have HO := HR.out.1
      rw [← hl] at HO HK
      have AR := Lib.hid (fun tt (h : tt ≤ 4) => appendRun_any w.heap.size k tt l _ wo (by omega) h (by omega) HR.out.2.size HO)
      have HB := Lib.hid HR.out.2
      have i1 : (k : Int) < (t.size : Int) := by omega
      by_cases h119 : ((t[k]'hlt).toNat : Int) = 119
      · rw [if_pos h119] at hmk
        rw [hmk] at HK
        have AR3 := Lib.hid (AR.out 3 (by omega))
        clear hl HR hbt hmk HO AR
        go_wp2_with (go_at_call 53; refine AR3.out.mono ?_; rintro e w3 ⟨v', rfl, hown, hb3⟩; have H3 := Lib.hid hown; have B3 := Lib.hid (HB.out.trans hb3); clear hown hb3 AR3)
        go_roundw
        case rel => exact ⟨k + 1, by omega, by go_num, Lib.hid ⟨by rw [HK.out]; exact H3.out, B3.out⟩⟩
        case measure => simp [intOf]; omega
      · rw [if_neg h119] at hmk
        rw [hmk] at HK
        have AR3 := Lib.hid (AR.out 1 (by omega))
        clear hl HR hbt hmk HO AR
        go_wp2_with (go_at_call 53; refine AR3.out.mono ?_; rintro e w3 ⟨v', rfl, hown, hb3⟩; have H3 := Lib.hid hown; have B3 := Lib.hid (HB.out.trans hb3); clear hown hb3 AR3)
        go_roundw
        case rel => exact ⟨k + 1, by omega, by go_num, Lib.hid ⟨by rw [HK.out]; exact H3.out, B3.out⟩⟩
        case measure => simp [intOf]; omega
    · obtain rfl : k = t.size := by omega
      have hpos := unL_pos (K := mdK t) (n := t.size) (fun i => (mdK_le t i).1)
      obtain ⟨l, hl⟩ : ∃ l, l = unL (mdK t) t.size := ⟨_, rfl⟩
      have HO := HR.out.1
      have HB := Lib.hid HR.out.2
      rw [← hl] at HO hpos
      have HLL := Lib.hid hl
      obtain ⟨g', c', rfl⟩ := owns_slice HO (by omega)
      have hcv := bytes_text HO
      clear HO HR hl hpos
      go_wp2_with fail
      go_ret
      exact ⟨by rw [← HLL.out]; rfl, HB.out⟩

end Go.Proofs.YthcmolhjncdnaaaDoor
