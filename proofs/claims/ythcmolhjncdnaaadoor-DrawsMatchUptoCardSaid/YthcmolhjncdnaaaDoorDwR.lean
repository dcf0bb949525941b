/-
  The reference's UnitsOf.
-/
import Derived.Test.YthcmolhjncdnaaaDoorDwP
namespace Go.Proofs.YthcmolhjncdnaaaDoor
open Go.RowKit
set_option linter.unusedSimpArgs false
set_option linter.unusedVariables false

/-- What the first k runs leave of 'right'. -/
def rightB (L : Nat → Int) (n : Nat) (kind : Int) : Nat → Bool
  | 0 => cntB n kind
  | k + 1 => rightB L n kind k && decide (1 ≤ L k ∧ L k ≤ 4000)
def sumC (L : Nat → Int) : Nat → Int
  | 0 => 0
  | k + 1 => sumC L k + min (max (L k) 0) 4000
theorem sumC_le (L : Nat → Int) (k : Nat) : 0 ≤ sumC L k ∧ sumC L k ≤ 4000 * k := by
  induction k with
  | zero => simp [sumC]
  | succ k ih => rw [sumC]; omega
theorem sumC_eq {L : Nat → Int} {n : Nat} (h : runsOK L n) : sumC L n = sumI L n := by
  induction n with
  | zero => rfl
  | succ n ih =>
    have a := ih (fun i hi => h i (by omega))
    have b := h n (by omega)
    rw [sumC, sumI, a]
    omega
theorem rightB_iff (L : Nat → Int) (n : Nat) (kind : Int) (k : Nat) : rightB L n kind k = true ↔ cntB n kind = true ∧ runsOK L k := by
  induction k with
  | zero => exact ⟨fun h => ⟨h, fun i hi => by omega⟩, fun h => h.1⟩
  | succ k ih =>
    rw [rightB, Bool.and_eq_true_iff, ih, decide_eq_true_iff]
    refine ⟨fun h => ⟨h.1.1, fun i hi => ?_⟩, fun h => ⟨⟨h.1, fun i hi => h.2 i (by omega)⟩, h.2 k (by omega)⟩⟩
    by_cases e : i = k
    · subst e; exact h.2
    · exact h.1.2 i (by omega)

theorem unitsR_kind (s : Option Addr) (n c : Nat) (kind : Int) (w : World) (hk : ¬ (kind = 1 ∨ kind = 2)) :
    Calls Tryd.prog 18 #[.slice s n c, .int .i64 kind] w fun e w' => e = .returned (.tuple #[.string ⟨#[]⟩, .int .i64 1]) ∧ Below w.heap.size w w' := by
  have h1 : (kind != 1) = true := by simp; omega
  have h2 : (kind != 2) = true := by simp; omega
  clear hk
  go_enter Tryd.func18, Tryd.ntmps18
  go_wp2_with fail
  go_ret2
  exact ⟨rfl, Below.refl _ _⟩

set_option maxHeartbeats 2000000 in
set_option maxRecDepth 100000 in
theorem unitsR_cnt (s : Option Addr) (n c : Nat) (kind : Int) (L : Nat → Int) (w : World) (hn : n ≤ 1048576) (hs : IsNums w s n c L) (hk : kind = 1 ∨ kind = 2) (hc : cntB n kind = false) :
    Calls Tryd.prog 18 #[.slice s n c, .int .i64 kind] w fun e w' => e = .returned (.tuple #[.string ⟨#[]⟩, .int .i64 2]) ∧ Below w.heap.size w w' := by
  have HS := Lib.hid hs
  have P : ∀ k, k < n → ∃ g o, s = some ⟨g, o, none⟩ ∧ w.cell? ⟨g, o + k, none⟩ = some (.int .i64 (L k)) := fun k hk => by
    rcases HS.out with h0 | ⟨g, o, h1, _, h3⟩
    · omega
    · exact ⟨g, o, h1, h3 k hk⟩
  have HP := Lib.hid P
  clear hs P HS
  rcases hk with rfl | rfl
  · have i1 : ((n : Int) == 59) = false := by
      unfold cntB at hc; rw [if_pos rfl] at hc; have := of_decide_eq_false hc; simp; omega
    clear hc
    go_enter Tryd.func18, Tryd.ntmps18
    go_wp2_with fail
    go_loopw [6, 7, 47] (fun r sm i wr => ∃ k : Nat, k ≤ n ∧ i = .int .i64 k ∧ r = .bool false ∧ sm = .int .i64 (sumC L k) ∧ w = wr) (fun _ _ i _ => n - (intOf i).toNat)
    case atStart => exact ⟨0, Nat.zero_le _, rfl, by first | rfl | simp [i1], rfl, rfl⟩
    case round =>
      obtain ⟨k, hk, rfl, rfl, rfl, rfl⟩ := hrel
      have hsm := sumC_le L k
      by_cases hlt : k < n
      · obtain ⟨g, o, rfl, hc⟩ := HP.out k hlt
        have HSM := Lib.hid (show sumC L (k + 1) = sumC L k + min (max (L k) 0) 4000 from rfl)
        obtain ⟨sm, hsm2⟩ : ∃ sm, sm = sumC L k := ⟨_, rfl⟩
        obtain ⟨x, hx⟩ : ∃ x, x = L k := ⟨_, rfl⟩
        rw [← hsm2] at hsm HSM
        rw [← hx] at hc HSM
        rw [← hsm2]
        obtain ⟨s1, s2⟩ := hsm
        have j1 : (k : Int) < (n : Int) := by omega
        clear hsm2 hx
        go_wp2_with fail
        go_roundw
        case rel => exact ⟨k + 1, by omega, by go_num, rfl, by rw [HSM.out], trivial⟩
        case measure => simp [intOf]; omega
      · obtain rfl : k = n := by omega
        clear hsm
        go_wp2_with fail
        go_ret2
        exact ⟨rfl, Below.refl _ _⟩
  · by_cases h29 : 29 ≤ n
    · have i0 : (29 : Int) ≤ (n : Int) := by omega
      have i1 : ((n : Int) % 10 == 9) = false := by
        unfold cntB at hc
        rw [if_neg (by decide), decide_eq_true h29, Bool.true_and] at hc
        have := of_decide_eq_false hc
        simp
        omega
      clear hc
      go_enter Tryd.func18, Tryd.ntmps18
      go_wp2_with fail
      go_loopw [6, 7, 47] (fun r sm i wr => ∃ k : Nat, k ≤ n ∧ i = .int .i64 k ∧ r = .bool false ∧ sm = .int .i64 (sumC L k) ∧ w = wr) (fun _ _ i _ => n - (intOf i).toNat)
      case atStart => exact ⟨0, Nat.zero_le _, rfl, by first | rfl | simp [i1], rfl, rfl⟩
      case round =>
        obtain ⟨k, hk, rfl, rfl, rfl, rfl⟩ := hrel
        have hsm := sumC_le L k
        by_cases hlt : k < n
        · obtain ⟨g, o, rfl, hc⟩ := HP.out k hlt
          have HSM := Lib.hid (show sumC L (k + 1) = sumC L k + min (max (L k) 0) 4000 from rfl)
          obtain ⟨sm, hsm2⟩ : ∃ sm, sm = sumC L k := ⟨_, rfl⟩
          obtain ⟨x, hx⟩ : ∃ x, x = L k := ⟨_, rfl⟩
          rw [← hsm2] at hsm HSM
          rw [← hx] at hc HSM
          rw [← hsm2]
          obtain ⟨s1, s2⟩ := hsm
          have j1 : (k : Int) < (n : Int) := by omega
          clear hsm2 hx
          go_wp2_with fail
          go_roundw
          case rel => exact ⟨k + 1, by omega, by go_num, rfl, by rw [HSM.out], trivial⟩
          case measure => simp [intOf]; omega
        · obtain rfl : k = n := by omega
          clear hsm
          go_wp2_with fail
          go_ret2
          exact ⟨rfl, Below.refl _ _⟩
    · have i1 : ¬ (29 : Int) ≤ (n : Int) := by omega
      clear hc
      go_enter Tryd.func18, Tryd.ntmps18
      go_wp2_with fail
      go_loopw [6, 7, 47] (fun r sm i wr => ∃ k : Nat, k ≤ n ∧ i = .int .i64 k ∧ r = .bool false ∧ sm = .int .i64 (sumC L k) ∧ w = wr) (fun _ _ i _ => n - (intOf i).toNat)
      case atStart => exact ⟨0, Nat.zero_le _, rfl, by first | rfl | simp [i1], rfl, rfl⟩
      case round =>
        obtain ⟨k, hk, rfl, rfl, rfl, rfl⟩ := hrel
        have hsm := sumC_le L k
        by_cases hlt : k < n
        · obtain ⟨g, o, rfl, hc⟩ := HP.out k hlt
          have HSM := Lib.hid (show sumC L (k + 1) = sumC L k + min (max (L k) 0) 4000 from rfl)
          obtain ⟨sm, hsm2⟩ : ∃ sm, sm = sumC L k := ⟨_, rfl⟩
          obtain ⟨x, hx⟩ : ∃ x, x = L k := ⟨_, rfl⟩
          rw [← hsm2] at hsm HSM
          rw [← hx] at hc HSM
          rw [← hsm2]
          obtain ⟨s1, s2⟩ := hsm
          have j1 : (k : Int) < (n : Int) := by omega
          clear hsm2 hx
          go_wp2_with fail
          go_roundw
          case rel => exact ⟨k + 1, by omega, by go_num, rfl, by rw [HSM.out], trivial⟩
          case measure => simp [intOf]; omega
        · obtain rfl : k = n := by omega
          clear hsm
          go_wp2_with fail
          go_ret2
          exact ⟨rfl, Below.refl _ _⟩

theorem rep_one (b : UInt8) (k : Nat) : Lib.repeatL [b] k = List.replicate k b := by
  induction k with
  | zero => rfl
  | succ k ih => rw [Lib.repeatL, ih]; rfl
theorem un_text (l : List UInt8) (b : UInt8) (t : Nat) : (⟨l.toArray⟩ : ByteArray) ++ ⟨(Lib.repeatL [b] t).toArray⟩ = ⟨(l ++ List.replicate t b).toArray⟩ := by
  rw [rep_one]
  apply ByteArray.ext
  simp
theorem un_size (l : List UInt8) : (⟨l.toArray⟩ : ByteArray).size = l.length := by show l.toArray.size = _; simp

set_option maxHeartbeats 4000000 in
set_option maxRecDepth 100000 in
theorem unitsR_one (g o c : Nat) (L : Nat → Int) (w : World) (hp : ∀ i, i < 59 → w.cell? ⟨g, o + i, none⟩ = some (.int .i64 (L i))) :
    Calls Tryd.prog 18 #[.slice (some ⟨g, o, none⟩) 59 c, .int .i64 1] w fun e w' => e = .returned (unV L 59 1) ∧ Below w.heap.size w w' := by
  have HP := Lib.hid hp
  have HCN := Lib.hid (show cntB 59 1 = true from rfl)
  clear hp
  go_enter Tryd.func18, Tryd.ntmps18
  go_wp2_with fail
  go_loopw [6, 7, 47] (fun r sm i wr => ∃ k : Nat, k ≤ 59 ∧ i = .int .i64 k ∧ r = .bool (rightB L 59 1 k) ∧ sm = .int .i64 (sumC L k) ∧ w = wr) (fun _ _ i _ => 59 - (intOf i).toNat)
  case atStart => exact ⟨0, Nat.zero_le _, rfl, by rw [show rightB L 59 1 0 = true from HCN.out], rfl, rfl⟩
  case round =>
    obtain ⟨k, hk, rfl, rfl, rfl, rfl⟩ := hrel
    have hsm := sumC_le L k
    by_cases hlt : k < 59
    · have hc := HP.out k hlt
      have HSM := Lib.hid (show sumC L (k + 1) = sumC L k + min (max (L k) 0) 4000 from rfl)
      have HRB := Lib.hid (show rightB L 59 1 (k + 1) = (rightB L 59 1 k && decide (1 ≤ L k ∧ L k ≤ 4000)) from rfl)
      obtain ⟨sm, hsm2⟩ : ∃ sm, sm = sumC L k := ⟨_, rfl⟩
      obtain ⟨x, hx⟩ : ∃ x, x = L k := ⟨_, rfl⟩
      obtain ⟨rb, hrb⟩ : ∃ rb, rb = rightB L 59 1 k := ⟨_, rfl⟩
      rw [← hsm2] at hsm HSM
      rw [← hx] at hc HSM HRB
      rw [← hrb] at HRB
      rw [← hsm2, ← hrb]
      obtain ⟨s1, s2⟩ := hsm
      have j1 : (k : Int) < 59 := by omega
      have IA := Lib.hid (fun wx => in_any x 1 4000 wx)
      clear hsm2 hx hrb
      cases rb <;> (
        go_wp2_with (go_at_call 7; refine (IA.out _).mono ?_; rintro e w' ⟨rfl, rfl⟩)
        go_roundw
        case rel => exact ⟨k + 1, by omega, by go_num, by rw [HRB.out]; first | rfl | simp, by rw [HSM.out], trivial⟩
        case measure => simp [intOf]; omega)
    · obtain rfl : k = 59 := by omega
      by_cases hr : rightB L 59 1 59 = true
      · have HG := Lib.hid ((rightB_iff L 59 1 59).1 hr)
        have HSE := Lib.hid (sumC_eq HG.out.2)
        rw [hr, HSE.out]
        clear hr hsm
        have HV := Lib.hid (show unV L 59 1 = .tuple #[.string ⟨(unL (eanK L (sumI L 59)) 59).toArray⟩, .int .i64 0] by unfold unV; rw [if_neg (fun h => h (.inl rfl)), if_pos HG.out]; rfl)
        obtain ⟨S1, S2⟩ := sumI_le HG.out.2
        obtain ⟨S, hS⟩ : ∃ S, S = sumI L 59 := ⟨_, rfl⟩
        rw [← hS] at HV S1 S2
        rw [← hS]
        clear hS HSE
        go_wp2_with fail
        rw [show ((59 : Nat) : Int) = 59 from rfl]
        go_loopw [10, 66] (fun out i wr => ∃ k : Nat, k ≤ 59 ∧ i = .int .i64 k ∧ out = .string ⟨(unL (eanK L S) k).toArray⟩ ∧ Hid (Below w.heap.size w wr)) (fun _ i _ => 59 - (intOf i).toNat)
        case atStart => exact ⟨0, Nat.zero_le _, rfl, rfl, Lib.hid (Below.refl _ _)⟩
        case round =>
          obtain ⟨k, hk2, rfl, rfl, HB⟩ := hrel
          obtain ⟨wo, rfl⟩ : ∃ wo : World, wo = wr := ⟨_, rfl⟩
          by_cases hlt2 : k < 59
          · have hc := cell_later HB.out (HP.out k hlt2)
            obtain ⟨x1, x2⟩ := HG.out.2 k hlt2
            have HKK := Lib.hid (show unL (eanK L S) (k + 1) = unL (eanK L S) k ++ List.replicate (eanK L S k) (unB k) from rfl)
            obtain ⟨l, hl⟩ : ∃ l, l = unL (eanK L S) k := ⟨_, rfl⟩
            have hll : l.length ≤ 4 * k := by rw [hl]; exact unL_len (fun i => (eanK_le L S i).2)
            obtain ⟨t, ht⟩ : ∃ t, t = eanK L S k := ⟨_, rfl⟩
            have htb := eanK_le L S k
            have hte : min 4 (max 1 ((2 * (L k * 95) + S) / (2 * S))) = (t : Int) := by rw [ht]; unfold eanK; omega
            rw [← ht] at htb HKK
            obtain ⟨x, hx⟩ : ∃ x, x = L k := ⟨_, rfl⟩
            rw [← hx] at hc x1 x2 hte
            have RD := Lib.hid (fun wx => round_any (x * 95) S wx (by omega) (by omega) (by omega) (by omega))
            obtain ⟨r, hr⟩ : ∃ r, r = (2 * (x * 95) + S) / (2 * S) := ⟨_, rfl⟩
            rw [← hr] at RD hte
            rw [← hl] at HKK
            rw [← hl]
            have i1 : (k : Int) < 59 := by omega
            have z1 := un_size l
            clear hx hr ht hl
            by_cases hp2 : k % 2 = 1
            · have hub : unB k = 48 := by unfold unB; rw [if_pos hp2]
              rw [hub] at HKK
              have hp3 : (k : Int) % 2 = 1 := by omega
              have RP := Lib.hid (fun wx => Tryd.strings_Repeat ((⟨#[49, 48]⟩ : ByteArray).extract 1 2) t wx (by omega) (by show 1 * t ≤ _; omega))
              rw [show ((⟨#[49, 48]⟩ : ByteArray).extract 1 2).data.toList = [48] from rfl] at RP
              have z2 : (⟨(Lib.repeatL [48] t).toArray⟩ : ByteArray).size = t := by rw [un_size, rep_one, List.length_replicate]
              have HX := Lib.hid (un_text l 48 t)
              clear hub
              go_wp2_with (first | (go_at_call 36; refine (RD.out _).mono ?_; rintro e w2 ⟨rfl, rfl⟩))
              refine (RP.out wo).mono ?_
              rintro e w2 ⟨rfl, hb2⟩
              have B2 := Lib.hid (below_step HB.out hb2)
              clear hb2
              go_wp2_with fail
              go_roundw
              case rel => exact ⟨k + 1, by omega, by go_num, by rw [HX.out, HKK.out], B2⟩
              case measure => simp [intOf]; omega
            · have hub : unB k = 49 := by unfold unB; rw [if_neg hp2]
              rw [hub] at HKK
              have hp3 : (k : Int) % 2 = 0 := by omega
              have RP := Lib.hid (fun wx => Tryd.strings_Repeat ((⟨#[49, 48]⟩ : ByteArray).extract 0 1) t wx (by omega) (by show 1 * t ≤ _; omega))
              rw [show ((⟨#[49, 48]⟩ : ByteArray).extract 0 1).data.toList = [49] from rfl] at RP
              have z2 : (⟨(Lib.repeatL [49] t).toArray⟩ : ByteArray).size = t := by rw [un_size, rep_one, List.length_replicate]
              have HX := Lib.hid (un_text l 49 t)
              clear hub
              go_wp2_with (first | (go_at_call 36; refine (RD.out _).mono ?_; rintro e w2 ⟨rfl, rfl⟩))
              refine (RP.out wo).mono ?_
              rintro e w2 ⟨rfl, hb2⟩
              have B2 := Lib.hid (below_step HB.out hb2)
              clear hb2
              go_wp2_with fail
              go_roundw
              case rel => exact ⟨k + 1, by omega, by go_num, by rw [HX.out, HKK.out], B2⟩
              case measure => simp [intOf]; omega
          · obtain rfl : k = 59 := by omega
            have HBB := HB
            go_wp2_with fail
            go_ret2
            exact ⟨by rw [HV.out]; rfl, HBB.out⟩
      · have hrf : rightB L 59 1 59 = false := by simpa using hr
        have HV := Lib.hid (show unV L 59 1 = .tuple #[.string ⟨#[]⟩, .int .i64 2] by unfold unV; rw [if_neg (fun h => h (.inl rfl)), if_neg (fun h => hr ((rightB_iff L 59 1 59).2 h))])
        rw [hrf]
        clear hr hrf hsm
        go_wp2_with fail
        go_ret2
        exact ⟨by rw [HV.out]; rfl, Below.refl _ _⟩

end Go.Proofs.YthcmolhjncdnaaaDoor
