/-
  The reference's UnitsOf for Code 39, and for any arguments.
-/
import Derived.Test.YthcmolhjncdnaaaDoorDwR
namespace Go.Proofs.YthcmolhjncdnaaaDoor
open Go.RowKit
set_option linter.unusedSimpArgs false
set_option linter.unusedVariables false

set_option maxHeartbeats 4000000 in
set_option maxRecDepth 100000 in
theorem unitsR_two (g o c n : Nat) (L : Nat → Int) (w : World) (hn : n ≤ 1048576) (hnc : n ≤ c) (hc1 : c ≤ 9223372036854775807) (hct : cntB n 2 = true) (hp : ∀ i, i < n → w.cell? ⟨g, o + i, none⟩ = some (.int .i64 (L i))) :
    Calls Tryd.prog 18 #[.slice (some ⟨g, o, none⟩) n c, .int .i64 2] w fun e w' => e = .returned (unV L n 2) ∧ Below w.heap.size w w' := by
  have HP := Lib.hid hp
  have HCN := Lib.hid hct
  have h9 : 29 ≤ n ∧ n % 10 = 9 := by
    have := hct
    unfold cntB at this
    rw [if_neg (by decide)] at this
    obtain ⟨a, b⟩ := Bool.and_eq_true_iff.1 this
    exact ⟨of_decide_eq_true a, of_decide_eq_true b⟩
  have f1 : (29 : Int) ≤ (n : Int) := by omega
  have f2 : (n : Int) % 10 = 9 := by omega
  have H9 := Lib.hid h9
  clear hp hct h9
  go_enter Tryd.func18, Tryd.ntmps18
  go_wp2_with fail
  clear f1 f2
  go_loopw [6, 7, 47] (fun r sm i wr => ∃ k : Nat, k ≤ n ∧ i = .int .i64 k ∧ r = .bool (rightB L n 2 k) ∧ sm = .int .i64 (sumC L k) ∧ w = wr) (fun _ _ i _ => n - (intOf i).toNat)
  case atStart => exact ⟨0, Nat.zero_le _, rfl, by rw [show rightB L n 2 0 = true from HCN.out], rfl, rfl⟩
  case round =>
    obtain ⟨k, hk, rfl, rfl, rfl, rfl⟩ := hrel
    have hsm := sumC_le L k
    by_cases hlt : k < n
    · have hc := HP.out k hlt
      have HSM := Lib.hid (show sumC L (k + 1) = sumC L k + min (max (L k) 0) 4000 from rfl)
      have HRB := Lib.hid (show rightB L n 2 (k + 1) = (rightB L n 2 k && decide (1 ≤ L k ∧ L k ≤ 4000)) from rfl)
      obtain ⟨sm, hsm2⟩ : ∃ sm, sm = sumC L k := ⟨_, rfl⟩
      obtain ⟨x, hx⟩ : ∃ x, x = L k := ⟨_, rfl⟩
      obtain ⟨rb, hrb⟩ : ∃ rb, rb = rightB L n 2 k := ⟨_, rfl⟩
      rw [← hsm2] at hsm HSM
      rw [← hx] at hc HSM HRB
      rw [← hrb] at HRB
      rw [← hsm2, ← hrb]
      obtain ⟨s1, s2⟩ := hsm
      have j1 : (k : Int) < (n : Int) := by omega
      have IA := Lib.hid (fun wx => in_any x 1 4000 wx)
      clear hsm2 hx hrb
      cases rb <;> (
        go_wp2_with (go_at_call 7; refine (IA.out _).mono ?_; rintro e w' ⟨rfl, rfl⟩)
        go_roundw
        case rel => exact ⟨k + 1, by omega, by go_num, by rw [HRB.out]; first | rfl | simp, by rw [HSM.out], trivial⟩
        case measure => simp [intOf]; omega)
    · obtain rfl : n = k := by omega
      by_cases hr : rightB L n 2 n = true
      · have HG := Lib.hid ((rightB_iff L n 2 n).1 hr)
        have HSE := Lib.hid (sumC_eq HG.out.2)
        rw [hr, HSE.out]
        clear hr hsm
        have HV := Lib.hid (show unV L n 2 = .tuple #[.string ⟨(unL (k39 L) n).toArray⟩, .int .i64 0] by unfold unV; rw [if_neg (fun h => h (.inr rfl)), if_pos HG.out]; rfl)
        clear HSE
        go_wp2_with fail
        go_loopw [10, 66] (fun out i wr => ∃ k : Nat, k ≤ n ∧ i = .int .i64 k ∧ out = .string ⟨(unL (k39 L) k).toArray⟩ ∧ Hid (Below w.heap.size w wr)) (fun _ i _ => n - (intOf i).toNat)
        case atStart => exact ⟨0, Nat.zero_le _, rfl, rfl, Lib.hid (Below.refl _ _)⟩
        case round =>
          obtain ⟨k, hk2, rfl, rfl, HB⟩ := hrel
          obtain ⟨wo, rfl⟩ : ∃ wo : World, wo = wr := ⟨_, rfl⟩
          by_cases hlt2 : k < n
          · have hc := cell_later HB.out (HP.out k hlt2)
            obtain ⟨x1, x2⟩ := HG.out.2 k hlt2
            have HKK := Lib.hid (show unL (k39 L) (k + 1) = unL (k39 L) k ++ List.replicate (k39 L k) (unB k) from rfl)
            obtain ⟨l, hl⟩ : ∃ l, l = unL (k39 L) k := ⟨_, rfl⟩
            have hll : l.length ≤ 4 * k := by rw [hl]; exact unL_len (fun i => (k39_le L i).2)
            rw [← hl] at HKK
            rw [← hl]
            have i1 : (k : Int) < (n : Int) := by omega
            have z1 := un_size l
            clear hl
            by_cases h9 : k % 10 = 9
            · have e1 : (k : Int) % 10 = 9 := by omega
              have hkk : k39 L k = 1 := by unfold k39; rw [if_pos h9]
              rw [hkk] at HKK
              have hp2 : k % 2 = 1 := by omega
              clear hkk x1 x2
              have hub : unB k = 48 := by unfold unB; rw [if_pos hp2]
              rw [hub] at HKK
              have hp3 : (k : Int) % 2 = 1 := by omega
              clear hub
              have z2 : (⟨(Lib.repeatL [48] 1).toArray⟩ : ByteArray).size = 1 := by rw [un_size, rep_one, List.length_replicate]
              have HX := Lib.hid (un_text l 48 1)
              have RP := Lib.hid (fun wx => Tryd.strings_Repeat ((⟨#[49, 48]⟩ : ByteArray).extract 1 2) 1 wx (by omega) (by show 1 * 1 ≤ _; omega))
              rw [show ((⟨#[49, 48]⟩ : ByteArray).extract 1 2).data.toList = [48] from rfl] at RP
              go_wp2_with fail
              refine (RP.out wo).mono ?_
              rintro e w2 ⟨rfl, hb2⟩
              have B2 := Lib.hid (below_step HB.out hb2)
              clear hb2
              go_wp2_with fail
              go_roundw
              case rel => exact ⟨k + 1, by omega, by go_num, by rw [HX.out, HKK.out], B2⟩
              case measure => simp [intOf]; omega
            · obtain ⟨b, hb⟩ : ∃ b, b = k - k % 10 := ⟨_, rfl⟩
              obtain ⟨j, hj⟩ : ∃ j, j = k % 10 := ⟨_, rfl⟩
              have hbj : b + j = k := by omega
              have hj9 : j < 9 := by omega
              have hbn : b + 9 ≤ n := by have := H9.out; omega
              have e1 : (k : Int) % 10 = (j : Int) := by omega
              have e2 : (k : Int) - (j : Int) = (b : Int) := by omega
              have e3 : (j : Int) < 9 := by omega
              have MN := Lib.hid (min9_any g (o + b) (c - b) L b wo (fun q hq => by rw [Nat.add_assoc]; exact cell_later HB.out (HP.out (b + q) (by omega))))
              have MX := Lib.hid (max9_any g (o + b) (c - b) L b wo (fun q hq => by rw [Nat.add_assoc]; exact cell_later HB.out (HP.out (b + q) (by omega))))
              obtain ⟨⟨l1, l2⟩, l3, l4⟩ := nine_in (L := L) (b := b) (fun q hq => HG.out.2 (b + q) (by omega))
              have hkk : k39 L k = if loN L b + hiN L b < 2 * L k then 3 else 1 := by
                unfold k39
                rw [if_neg h9, ← hb, ← hj]
                unfold wideB
                rw [hbj]
                by_cases hw : loN L b + hiN L b < 2 * L k
                · rw [decide_eq_true hw, if_pos hw]; rfl
                · rw [decide_eq_false hw, if_neg hw]; rfl
              obtain ⟨lo, hlo⟩ : ∃ lo, lo = loN L b := ⟨_, rfl⟩
              obtain ⟨hi2, hhi⟩ : ∃ hi2, hi2 = hiN L b := ⟨_, rfl⟩
              obtain ⟨x, hx⟩ : ∃ x, x = L k := ⟨_, rfl⟩
              rw [← hlo] at MN l1 l2 hkk
              rw [← hhi] at MX l3 l4 hkk
              rw [← hx] at hc x1 x2 hkk
              have d1 : c ≠ b := by omega
              have d2 : b ≤ n := by omega
              have d3 : b ≤ c := by omega
              have d4 : b + 9 ≤ c := by omega
              have d5 : b + 9 - b = 9 := by omega
              clear hb hj hbj hlo hhi hx h9
              by_cases hw : lo + hi2 < 2 * x
              · rw [if_pos hw] at hkk
                rw [hkk] at HKK
                clear hkk
                by_cases hp2 : k % 2 = 1
                · have hub : unB k = 48 := by unfold unB; rw [if_pos hp2]
                  rw [hub] at HKK
                  have hp3 : (k : Int) % 2 = 1 := by omega
                  clear hub
                  have z2 : (⟨(Lib.repeatL [48] 3).toArray⟩ : ByteArray).size = 3 := by rw [un_size, rep_one, List.length_replicate]
                  have HX := Lib.hid (un_text l 48 3)
                  have RP := Lib.hid (fun wx => Tryd.strings_Repeat ((⟨#[49, 48]⟩ : ByteArray).extract 1 2) 3 wx (by omega) (by show 1 * 3 ≤ _; omega))
                  rw [show ((⟨#[49, 48]⟩ : ByteArray).extract 1 2).data.toList = [48] from rfl] at RP
                  go_wp2_with (first | (go_at_call 37; refine MN.out.mono ?_; rintro e w2 ⟨rfl, rfl⟩) | (go_at_call 38; refine MX.out.mono ?_; rintro e w2 ⟨rfl, rfl⟩))
                  refine (RP.out wo).mono ?_
                  rintro e w2 ⟨rfl, hb2⟩
                  have B2 := Lib.hid (below_step HB.out hb2)
                  clear hb2
                  go_wp2_with fail
                  go_roundw
                  case rel => exact ⟨k + 1, by omega, by go_num, by rw [HX.out, HKK.out], B2⟩
                  case measure => simp [intOf]; omega
                · have hub : unB k = 49 := by unfold unB; rw [if_neg hp2]
                  rw [hub] at HKK
                  have hp3 : (k : Int) % 2 = 0 := by omega
                  clear hub
                  have z2 : (⟨(Lib.repeatL [49] 3).toArray⟩ : ByteArray).size = 3 := by rw [un_size, rep_one, List.length_replicate]
                  have HX := Lib.hid (un_text l 49 3)
                  have RP := Lib.hid (fun wx => Tryd.strings_Repeat ((⟨#[49, 48]⟩ : ByteArray).extract 0 1) 3 wx (by omega) (by show 1 * 3 ≤ _; omega))
                  rw [show ((⟨#[49, 48]⟩ : ByteArray).extract 0 1).data.toList = [49] from rfl] at RP
                  go_wp2_with (first | (go_at_call 37; refine MN.out.mono ?_; rintro e w2 ⟨rfl, rfl⟩) | (go_at_call 38; refine MX.out.mono ?_; rintro e w2 ⟨rfl, rfl⟩))
                  refine (RP.out wo).mono ?_
                  rintro e w2 ⟨rfl, hb2⟩
                  have B2 := Lib.hid (below_step HB.out hb2)
                  clear hb2
                  go_wp2_with fail
                  go_roundw
                  case rel => exact ⟨k + 1, by omega, by go_num, by rw [HX.out, HKK.out], B2⟩
                  case measure => simp [intOf]; omega
              · rw [if_neg hw] at hkk
                rw [hkk] at HKK
                clear hkk
                by_cases hp2 : k % 2 = 1
                · have hub : unB k = 48 := by unfold unB; rw [if_pos hp2]
                  rw [hub] at HKK
                  have hp3 : (k : Int) % 2 = 1 := by omega
                  clear hub
                  have z2 : (⟨(Lib.repeatL [48] 1).toArray⟩ : ByteArray).size = 1 := by rw [un_size, rep_one, List.length_replicate]
                  have HX := Lib.hid (un_text l 48 1)
                  have RP := Lib.hid (fun wx => Tryd.strings_Repeat ((⟨#[49, 48]⟩ : ByteArray).extract 1 2) 1 wx (by omega) (by show 1 * 1 ≤ _; omega))
                  rw [show ((⟨#[49, 48]⟩ : ByteArray).extract 1 2).data.toList = [48] from rfl] at RP
                  go_wp2_with (first | (go_at_call 37; refine MN.out.mono ?_; rintro e w2 ⟨rfl, rfl⟩) | (go_at_call 38; refine MX.out.mono ?_; rintro e w2 ⟨rfl, rfl⟩))
                  refine (RP.out wo).mono ?_
                  rintro e w2 ⟨rfl, hb2⟩
                  have B2 := Lib.hid (below_step HB.out hb2)
                  clear hb2
                  go_wp2_with fail
                  go_roundw
                  case rel => exact ⟨k + 1, by omega, by go_num, by rw [HX.out, HKK.out], B2⟩
                  case measure => simp [intOf]; omega
                · have hub : unB k = 49 := by unfold unB; rw [if_neg hp2]
                  rw [hub] at HKK
                  have hp3 : (k : Int) % 2 = 0 := by omega
                  clear hub
                  have z2 : (⟨(Lib.repeatL [49] 1).toArray⟩ : ByteArray).size = 1 := by rw [un_size, rep_one, List.length_replicate]
                  have HX := Lib.hid (un_text l 49 1)
                  have RP := Lib.hid (fun wx => Tryd.strings_Repeat ((⟨#[49, 48]⟩ : ByteArray).extract 0 1) 1 wx (by omega) (by show 1 * 1 ≤ _; omega))
                  rw [show ((⟨#[49, 48]⟩ : ByteArray).extract 0 1).data.toList = [49] from rfl] at RP
                  go_wp2_with (first | (go_at_call 37; refine MN.out.mono ?_; rintro e w2 ⟨rfl, rfl⟩) | (go_at_call 38; refine MX.out.mono ?_; rintro e w2 ⟨rfl, rfl⟩))
                  refine (RP.out wo).mono ?_
                  rintro e w2 ⟨rfl, hb2⟩
                  have B2 := Lib.hid (below_step HB.out hb2)
                  clear hb2
                  go_wp2_with fail
                  go_roundw
                  case rel => exact ⟨k + 1, by omega, by go_num, by rw [HX.out, HKK.out], B2⟩
                  case measure => simp [intOf]; omega
          · obtain rfl : n = k := by omega
            have HBB := HB
            go_wp2_with fail
            go_ret2
            exact ⟨by rw [HV.out]; rfl, HBB.out⟩
      · have hrf : rightB L n 2 n = false := by simpa using hr
        have HV := Lib.hid (show unV L n 2 = .tuple #[.string ⟨#[]⟩, .int .i64 2] by unfold unV; rw [if_neg (fun h => h (.inr rfl)), if_neg (fun h => hr ((rightB_iff L n 2 n).2 h))])
        rw [hrf]
        clear hr hrf hsm
        go_wp2_with fail
        go_ret2
        exact ⟨by rw [HV.out]; rfl, Below.refl _ _⟩

theorem unitsR_any (s : Option Addr) (n c : Nat) (kind : Int) (L : Nat → Int) (w : World) (hn : n ≤ 1048576) (hnc : n ≤ c) (hc1 : c ≤ 9223372036854775807) (hs : IsNums w s n c L) :
    Calls Tryd.prog 18 #[.slice s n c, .int .i64 kind] w fun e w' => e = .returned (unV L n kind) ∧ Below w.heap.size w w' := by
  by_cases hk : kind = 1 ∨ kind = 2
  · by_cases hct : cntB n kind = true
    · rcases hk with rfl | rfl
      · obtain rfl : n = 59 := by unfold cntB at hct; rw [if_pos rfl] at hct; exact of_decide_eq_true hct
        rcases hs with h0 | ⟨g, o, rfl, _, hp⟩
        · omega
        · exact unitsR_one g o c L w hp
      · rcases hs with h0 | ⟨g, o, rfl, _, hp⟩
        · subst h0; exact absurd hct (by decide)
        · exact unitsR_two g o c n L w hn hnc hc1 hct hp
    · have hcf : cntB n kind = false := by simpa using hct
      have HV : unV L n kind = .tuple #[.string ⟨#[]⟩, .int .i64 2] := by unfold unV; rw [if_neg (fun h => h hk), if_neg (fun h => hct h.1)]
      rw [HV]
      exact unitsR_cnt s n c kind L w hn hs hk hcf
  · have HV : unV L n kind = .tuple #[.string ⟨#[]⟩, .int .i64 1] := by unfold unV; rw [if_pos hk]
    rw [HV]
    exact unitsR_kind s n c kind w hk

end Go.Proofs.YthcmolhjncdnaaaDoor
