/-
  bar.units39, and bar.Units.
-/
import Derived.Test.YthcmolhjncdnaaaDoorDwX
import Derived.Deep.DeepCutAuto
import Derived.Deep.CutRange
namespace Go.Proofs.YthcmolhjncdnaaaDoor
open Go.RowKit
set_option linter.unusedSimpArgs false
set_option linter.unusedVariables false

theorem join_len_le (xs : List (List UInt8)) (n : Nat) (h : ∀ x ∈ xs, x.length ≤ n) : (Lib.join xs [48]).length ≤ (n + 1) * xs.length := by
  cases xs with
  | nil => simp [Lib.join_nil]
  | cons x r =>
    rw [Lib.join_cons, List.length_append]
    have h0 := h x (List.mem_cons_self ..)
    have : (Lib.joinTail [48] r).length ≤ (n + 1) * r.length := by
      have hr : ∀ y ∈ r, y.length ≤ n := fun y hy => h y (List.mem_cons_of_mem _ hy)
      clear h h0
      induction r with
      | nil => simp [Lib.joinTail]
      | cons y t ih =>
        have a := ih (fun z hz => hr z (List.mem_cons_of_mem _ hz))
        have b := hr y (List.mem_cons_self ..)
        simp only [Lib.joinTail, List.map_cons, List.flatten_cons, List.length_append, List.length_cons, List.length_nil] at a ⊢
        rw [Nat.mul_add]
        omega
    rw [List.length_cons, Nat.mul_add]
    omega
theorem letC_len (L : Nat → Int) (b : Nat) : (letC L b).length ≤ 36 := unL_len (n := 9) (fun i => by split <;> omega)

theorem make_strs (m : Nat) (hm : m ≤ 1000000) (w : World) :
    (Instr.makeSlice 73 (.int .i64 (m : Int)) (.int .i64 (m : Int))).run Tryd.prog w = .ok (.slice (some ⟨w.heap.size, 0, none⟩) m m) (w.alloc (.cells (madeCells #[.string ⟨#[]⟩] m) 9)) := by
  obtain ⟨i0, hi, hz0, hz1, hz2⟩ := info_parts info_strU
  have hr := run_make (P := Tryd.prog) w 73 9 i0 (.string ⟨#[]⟩) Tryd.underlying73 hi hz0 .i64 .i64 m m (by omega) (by omega) (by rw [hz2]; omega) (by omega)
  simp only [Int.toNat_natCast, hz1, Nat.mul_one] at hr
  exact hr

set_option maxHeartbeats 4000000 in
set_option maxRecDepth 100000 in
theorem units39_any (g o c n m : Nat) (L : Nat → Int) (w : World) (hn : n = 10 * m + 9) (hn1 : n ≤ 1048576) (hnc : n ≤ c) (hc1 : c ≤ 9223372036854775807) (hL : ∀ i, i < n → 1 ≤ L i ∧ L i ≤ 4000) (hp : ∀ i, i < n → w.cell? ⟨g, o + i, none⟩ = some (.int .i64 (L i))) :
    Calls Tryd.prog 35 #[.slice (some ⟨g, o, none⟩) n c] w fun e w' => e = .returned (.string ⟨(unL (k39 L) n).toArray⟩) ∧ Below w.heap.size w w' := by
  have hq : ((n : Int) + 1) / 10 = ((m + 1 : Nat) : Int) := by omega
  obtain ⟨M, hM⟩ : ∃ M, M = m + 1 := ⟨_, rfl⟩
  rw [← hM] at hq
  have HP := Lib.hid hp
  have HL := Lib.hid hL
  have HN := Lib.hid hn
  have HM := Lib.hid hM
  have hMb : M ≤ 104858 := by omega
  clear hp hL hn hM
  go_enter Tryd.func35, Tryd.ntmps35
  obtain ⟨w1, hw1⟩ : ∃ w1, w1 = w.alloc (.cells (madeCells #[.string ⟨#[]⟩] M) 9) := ⟨_, rfl⟩
  have hmk := make_strs M (by omega) w
  rw [← hw1] at hmk
  have hown1 : w1.ownsRow w.heap.size 9 1 (.slice (some ⟨w.heap.size, 0, none⟩) M M) M (codesV L M 0) := by
    have hsz : (madeCells #[Value.string ⟨#[]⟩] M).size = M := by rw [← Array.length_toList, toList_madeCells_one, List.length_replicate]
    have h := World.ownsRow_lit (base := w.heap.size) (e := 9) (size := 1) w (madeCells #[.string ⟨#[]⟩] M) M (Nat.le_refl _) (by unfold maxLen; omega) (by rw [hsz, Nat.mul_one])
    rw [toList_madeCells_one, show List.replicate M (Value.string ⟨#[]⟩) = codesV L M 0 by
      apply List.ext_getElem?
      intro i
      by_cases hi : i < M
      · simp [codesV, hi]
      · simp [codesV, hi]] at h
    rw [hw1]
    exact h
  have hb1 : Below w.heap.size w w1 := by rw [hw1]; exact new_below _ _
  have P0 := Lib.hid (show _ ∧ _ from ⟨hown1, hb1⟩)
  clear hown1 hb1 hw1
  go_wp2_with fail
  clear hq hmk
  go_loopw [12] (fun i wr => ∃ k : Nat, k ≤ M ∧ i = .int .i64 k ∧ Hid (wr.ownsRow w.heap.size 9 1 (.slice (some ⟨w.heap.size, 0, none⟩) M M) M (codesV L M k) ∧ Below w.heap.size w wr)) (fun i _ => M - (intOf i).toNat)
  case atStart => exact ⟨0, Nat.zero_le _, rfl, P0⟩
  case round =>
    obtain ⟨k, hk, rfl, HR⟩ := hrel
    obtain ⟨wo, rfl⟩ : ∃ wo : World, wo = wr := ⟨_, rfl⟩
    clear P0
    by_cases hlt : k < M
    · obtain ⟨b, hb⟩ : ∃ b, b = 10 * k := ⟨_, rfl⟩
      have hbn : b + 9 ≤ n := by have := HN.out; have := HM.out; omega
      have hbi : 10 * (k : Int) = (b : Int) := by omega
      have hLk : ∀ j, j < 9 → 1 ≤ L (b + j) ∧ L (b + j) ≤ 4000 := fun j hj => HL.out (b + j) (by omega)
      have hpk : ∀ j, j < 9 → wo.cell? ⟨g, o + b + j, none⟩ = some (.int .i64 (L (b + j))) := fun j hj => by rw [Nat.add_assoc]; exact cell_later HR.out.2 (HP.out (b + j) (by omega))
      have PC := Lib.hid (fun cc => piecesOf_any g (o + b) cc b L wo hLk hpk)
      have MD := Lib.hid (fun wx => letter_any g (o + b) 0 b L wo hLk hpk wx)
      have hcd : (⟨(letC L b).toArray⟩ : ByteArray) = codeAt L k := by unfold codeAt; rw [hb]
      have HCD := Lib.hid hcd
      have HO := Lib.hid HR.out.1
      have HB := Lib.hid HR.out.2
      have i1 : (k : Int) < (M : Int) := by omega
      have d1 : c ≠ b := by omega
      have d2 : b ≤ n := by omega
      have d3 : b ≤ c := by omega
      have d4 : 9 ≤ c - b := by omega
      clear hb hLk hpk hcd HR
      go_wp2_with fail
      refine (PC.out (c - b)).mono ?_
      rintro e w2 ⟨rfl, hb2⟩
      have B2 := Lib.hid hb2
      clear hb2 PC
      go_wp2_with fail
      refine (MD.out w2).mono ?_
      rintro e w3 ⟨rfl, hb3⟩
      have hb13 := below_step B2.out hb3
      have HO3 := below_owns HO.out hb13
      have hcell := HO3.cellAt k (by omega)
      have hcell0 : w3.cell? ⟨w.heap.size, k, none⟩ = some (.string ⟨#[]⟩) := by rw [hcell]; simp [codesV, hlt]
      have hfz := HO3.frozenAt k
      have H4 := Lib.hid (show (w3.setCell ⟨w.heap.size, k, none⟩ (.string ⟨(letC L b).toArray⟩)).ownsRow w.heap.size 9 1 (.slice (some ⟨w.heap.size, 0, none⟩) M M) M (codesV L M (k + 1)) by
        rw [HCD.out, ← codesV_set L M k hlt]
        exact (HO3.stored k (.string (codeAt L k))).1)
      have B4 := Lib.hid ((below_step HB.out hb13).setCell (p := ⟨w.heap.size, k, none⟩) (Nat.le_refl _) (.string ⟨(letC L b).toArray⟩))
      clear hb3 hb13 HO3 hcell B2 MD HO HB HCD d1 d2 d3 d4 hbi hbn
      go_wp2_with fail
      go_roundw
      case rel => exact ⟨k + 1, by omega, by go_num, Lib.hid ⟨H4.out, B4.out⟩⟩
      case measure => simp [intOf]; omega
    · obtain rfl : k = M := by omega
      have HO := HR.out.1
      have hcl : ∀ j x, ((List.range k).map (codeAt L))[j]? = some x → wo.cell? ⟨w.heap.size, 0 + j, none⟩ = some (.string x) := fun j x hj => by
        obtain ⟨hj1, hj2⟩ := List.getElem?_eq_some_iff.1 hj
        have hjk : j < k := by simpa using hj1
        rw [Nat.zero_add, HO.cellAt j (by omega)]
        simp only [List.getElem_map, List.getElem_range] at hj2
        subst hj2
        simp [codesV, hjk]
      have hln : ((List.range k).map (codeAt L)).length = k := by simp
      have hmap : (((List.range k).map (codeAt L)).map (fun x : ByteArray => x.data.toList)) = (List.range k).map (fun i => letC L (10 * i)) := by
        rw [List.map_map]; rfl
      have hbk : w.heap.size < wo.heap.size := (HO.lt w.heap.size rfl).2
      have JN := Tryd.strings_Join w.heap.size 0 k ((List.range k).map (codeAt L)) ⟨#[48]⟩ wo hcl hbk (by rw [hln]; omega) (by rw [hln]; exact Nat.le_refl _) (by
        rw [hmap]
        have := join_len_le ((List.range k).map (fun i => letC L (10 * i))) 36 (fun x hx => by
          obtain ⟨i, _, rfl⟩ := List.mem_map.1 hx
          exact letC_len L _)
        rw [List.length_map, List.length_range] at this
        exact Nat.le_trans this (by omega))
      rw [hmap, hln] at JN
      have hall := k39_all L m
      rw [← HN.out, ← HM.out] at hall
      rw [show (⟨#[48]⟩ : ByteArray).data.toList = [48] from rfl, ← hall] at JN
      have J := Lib.hid JN
      have HB := Lib.hid HR.out.2
      clear JN hall HO HR hcl hln hmap hbk
      go_wp2_with fail
      refine J.out.mono ?_
      rintro e w5 ⟨rfl, hb5⟩
      have B5 := Lib.hid (below_step HB.out hb5)
      clear hb5
      go_wp2_with fail
      go_ret
      exact ⟨rfl, B5.out⟩

end Go.Proofs.YthcmolhjncdnaaaDoor
