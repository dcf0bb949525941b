/-
  bar.Units.
-/
import Derived.Test.YthcmolhjncdnaaaDoorDwY
namespace Go.Proofs.YthcmolhjncdnaaaDoor
open Go.RowKit
set_option linter.unusedSimpArgs false
set_option linter.unusedVariables false

theorem isKind_yes (k : Int) (w : World) (h : k = 1 ∨ k = 2) : Calls Tryd.prog 32 #[.int .i64 k] w fun e w' => e = .returned (.bool true) ∧ w = w' := by
  rcases h with rfl | rfl <;> (
    go_enter Tryd.func32, Tryd.ntmps32
    go_wp2
    go_ret
    exact ⟨rfl, rfl⟩)
theorem isKind_no (k : Int) (w : World) (h : ¬ (k = 1 ∨ k = 2)) : Calls Tryd.prog 32 #[.int .i64 k] w fun e w' => e = .returned (.bool false) ∧ w = w' := by
  have h1 : (k == 1) = false := by simp; omega
  have h2 : (k == 2) = false := by simp; omega
  clear h
  go_enter Tryd.func32, Tryd.ntmps32
  go_wp2
  go_ret
  exact ⟨rfl, rfl⟩

/-- Whether a code of a kind can have n runs. -/
def cntB (n : Nat) (kind : Int) : Bool := if kind = 1 then decide (n = 59) else decide (29 ≤ n) && decide (n % 10 = 9)

theorem isCount_any (n : Nat) (k : Int) (w : World) (hn : n ≤ 1048576) (h : k = 1 ∨ k = 2) : Calls Tryd.prog 33 #[.int .i64 n, .int .i64 k] w fun e w' => e = .returned (.bool (cntB n k)) ∧ w = w' := by
  rcases h with rfl | rfl
  · by_cases h59 : n = 59
    · subst h59
      go_enter Tryd.func33, Tryd.ntmps33
      go_wp2
      go_ret
      exact ⟨rfl, rfl⟩
    · have i1 : ((n : Int) == 59) = false := by simp; omega
      have HC := Lib.hid (show cntB n 1 = false by unfold cntB; rw [if_pos rfl]; exact decide_eq_false h59)
      go_enter Tryd.func33, Tryd.ntmps33
      go_wp2
      go_ret
      exact ⟨by rw [HC.out]; first | rfl | simp [i1], rfl⟩
  · by_cases h29 : 29 ≤ n
    · have i1 : (29 : Int) ≤ (n : Int) := by omega
      by_cases h9 : n % 10 = 9
      · have i2 : ((n : Int) + 1) % 10 = 0 := by omega
        have HC := Lib.hid (show cntB n 2 = true by unfold cntB; rw [if_neg (by decide), decide_eq_true h29, decide_eq_true h9]; rfl)
        go_enter Tryd.func33, Tryd.ntmps33
        go_wp2
        go_ret
        exact ⟨by rw [HC.out]; first | rfl | simp [i2], rfl⟩
      · have i2 : ¬ ((n : Int) + 1) % 10 = 0 := by omega
        have i3 : (((n : Int) + 1) % 10 == 0) = false := by simpa using i2
        have HC := Lib.hid (show cntB n 2 = false by unfold cntB; rw [if_neg (by decide), decide_eq_true h29, decide_eq_false h9]; rfl)
        go_enter Tryd.func33, Tryd.ntmps33
        go_wp2
        go_ret
        exact ⟨by rw [HC.out]; first | rfl | simp [i3], rfl⟩
    · have i1 : ¬ (29 : Int) ≤ (n : Int) := by omega
      have HC := Lib.hid (show cntB n 2 = false by unfold cntB; rw [if_neg (by decide), decide_eq_false h29]; rfl)
      go_enter Tryd.func33, Tryd.ntmps33
      go_wp2
      go_ret
      exact ⟨by rw [HC.out]; rfl, rfl⟩

/-- All runs are from 1 to MaxSide. -/
def runsOK (L : Nat → Int) (n : Nat) : Prop := ∀ i, i < n → 1 ≤ L i ∧ L i ≤ 4000
/-- How many modules each run of a code of a kind has. -/
def unK (L : Nat → Int) (kind : Int) : Nat → Nat := if kind = 1 then eanK L (sumI L 59) else k39 L
open Classical in
noncomputable def unV (L : Nat → Int) (n : Nat) (kind : Int) : Value :=
  if ¬ (kind = 1 ∨ kind = 2) then .tuple #[.string ⟨#[]⟩, .int .i64 1] else if cntB n kind = true ∧ runsOK L n then .tuple #[.string ⟨(unL (unK L kind) n).toArray⟩, .int .i64 0] else .tuple #[.string ⟨#[]⟩, .int .i64 2]

set_option maxHeartbeats 2000000 in
set_option maxRecDepth 100000 in
theorem units_any (s : Option Addr) (n c : Nat) (kind : Int) (L : Nat → Int) (w : World) (hn : n ≤ 1048576) (hnc : n ≤ c) (hc1 : c ≤ 9223372036854775807) (hs : IsNums w s n c L) :
    Calls Tryd.prog 17 #[.slice s n c, .int .i64 kind] w fun e w' => e = .returned (unV L n kind) ∧ Below w.heap.size w w' := by
  by_cases hk : kind = 1 ∨ kind = 2
  · by_cases hcn : cntB n kind = true
    · have hn0 : 29 ≤ n := by
        unfold cntB at hcn
        rcases hk with rfl | rfl
        · rw [if_pos rfl] at hcn; have := of_decide_eq_true hcn; omega
        · rw [if_neg (by decide)] at hcn; have := of_decide_eq_true (Bool.and_eq_true_iff.1 hcn).1; omega
      rcases hs with h0 | ⟨g, o, rfl, hg, hp⟩
      · omega
      have HP := Lib.hid hp
      have KD := Lib.hid (isKind_yes kind w hk)
      have CT := Lib.hid (isCount_any n kind w hn hk)
      rw [hcn] at CT
      have HK := Lib.hid hk
      have HCN := Lib.hid hcn
      clear hp hk hcn
      go_enter Tryd.func17, Tryd.ntmps17
      go_wp2_with (first | (go_at_call 32; refine KD.out.mono ?_; rintro e w' ⟨rfl, rfl⟩) | (go_at_call 33; refine CT.out.mono ?_; rintro e w' ⟨rfl, rfl⟩))
      go_loopw [18] (fun i wr => ∃ k : Nat, k ≤ n ∧ i = .int .i64 k ∧ w = wr ∧ Hid (runsOK L k)) (fun i _ => n - (intOf i).toNat)
      case atStart => exact ⟨0, Nat.zero_le _, rfl, rfl, Lib.hid (fun i hi => by omega)⟩
      case round =>
        obtain ⟨k, hkn, rfl, rfl, HG⟩ := hrel
        by_cases hlt : k < n
        · have hc := HP.out k hlt
          have i1 : (k : Int) < (n : Int) := by omega
          by_cases hx : 1 ≤ L k ∧ L k ≤ 4000
          · have HG2 := Lib.hid (show runsOK L (k + 1) from fun i hi => (if e : i = k then e ▸ hx else HG.out i (by omega)))
            obtain ⟨x, hxx⟩ : ∃ x, x = L k := ⟨_, rfl⟩
            rw [← hxx] at hc hx
            have OU := Lib.hid (outside_no x 1 4000 w hx)
            clear hxx hx
            go_wp2_with (go_at_call 20; refine OU.out.mono ?_; rintro e w' ⟨rfl, rfl⟩)
            go_roundw
            case rel => exact ⟨k + 1, by omega, by go_num, trivial, HG2⟩
            case measure => simp [intOf]; omega
          · have HV := Lib.hid (show unV L n kind = .tuple #[.string ⟨#[]⟩, .int .i64 2] by unfold unV; rw [if_neg (fun h => h HK.out), if_neg (fun h => hx (h.2 k hlt))])
            obtain ⟨x, hxx⟩ : ∃ x, x = L k := ⟨_, rfl⟩
            rw [← hxx] at hc hx
            have OU := Lib.hid (outside_yes x 1 4000 w hx)
            clear hxx hx
            go_wp2_with (go_at_call 20; refine OU.out.mono ?_; rintro e w' ⟨rfl, rfl⟩)
            go_ret2
            exact ⟨by rw [HV.out]; rfl, Below.refl _ _⟩
        · obtain rfl : k = n := by omega
          rcases HK.out with rfl | rfl
          · obtain rfl : k = 59 := by have := HCN.out; unfold cntB at this; rw [if_pos rfl] at this; exact of_decide_eq_true this
            have HV := Lib.hid (show unV L 59 1 = .tuple #[.string ⟨(unL (eanK L (sumI L 59)) 59).toArray⟩, .int .i64 0] by unfold unV; rw [if_neg (fun h => h (.inl rfl)), if_pos ⟨HCN.out, HG.out⟩]; rfl)
            have UE := Lib.hid (unitsEAN_any g o c L w HG.out HP.out)
            go_wp2_with (go_at_call 34; refine UE.out.mono ?_; rintro e w2 ⟨rfl, hb2⟩)
            go_ret2
            exact ⟨by rw [HV.out]; rfl, hb2⟩
          · have h9 : 29 ≤ k ∧ k % 10 = 9 := by
              have := HCN.out
              unfold cntB at this
              rw [if_neg (by decide)] at this
              obtain ⟨a, b⟩ := Bool.and_eq_true_iff.1 this
              exact ⟨of_decide_eq_true a, of_decide_eq_true b⟩
            have HV := Lib.hid (show unV L k 2 = .tuple #[.string ⟨(unL (k39 L) k).toArray⟩, .int .i64 0] by unfold unV; rw [if_neg (fun h => h (.inr rfl)), if_pos ⟨HCN.out, HG.out⟩]; rfl)
            have UE := Lib.hid (units39_any g o c k (k / 10) L w (by omega) hn hnc hc1 HG.out HP.out)
            go_wp2_with (go_at_call 35; refine UE.out.mono ?_; rintro e w2 ⟨rfl, hb2⟩)
            go_ret2
            exact ⟨by rw [HV.out]; rfl, hb2⟩
    · have hcf : cntB n kind = false := by simpa using hcn
      have KD := Lib.hid (isKind_yes kind w hk)
      have CT := Lib.hid (isCount_any n kind w hn hk)
      rw [hcf] at CT
      have HV := Lib.hid (show unV L n kind = .tuple #[.string ⟨#[]⟩, .int .i64 2] by unfold unV; rw [if_neg (fun h => h hk), if_neg (fun h => hcn h.1)])
      clear hs hk hcn hcf
      go_enter Tryd.func17, Tryd.ntmps17
      go_wp2_with (first | (go_at_call 32; refine KD.out.mono ?_; rintro e w' ⟨rfl, rfl⟩) | (go_at_call 33; refine CT.out.mono ?_; rintro e w' ⟨rfl, rfl⟩))
      go_ret2
      exact ⟨by rw [HV.out]; rfl, Below.refl _ _⟩
  · have KD := Lib.hid (isKind_no kind w hk)
    have HV := Lib.hid (show unV L n kind = .tuple #[.string ⟨#[]⟩, .int .i64 1] by unfold unV; rw [if_pos hk])
    clear hs hk
    go_enter Tryd.func17, Tryd.ntmps17
    go_wp2_with (go_at_call 32; refine KD.out.mono ?_; rintro e w' ⟨rfl, rfl⟩)
    go_ret2
    exact ⟨by rw [HV.out]; rfl, Below.refl _ _⟩

end Go.Proofs.YthcmolhjncdnaaaDoor
