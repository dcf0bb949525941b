/-
  Library and small functions on texts: strings.Cut at a line feed, strings.Trim at "#.", isRow.
-/
import Derived.Test.YtejhmobpepllcaaDoorBase
import Derived.Test.YtejhmobpepllcaaDoorName
import Derived.Test.YtejhmobpepllcaaDoorShelf
import Derived.Lib.IndexLaws
import Derived.Lib.IndexBytes
import Derived.Lib.SlTrimSet
import Derived.WalkSpells
import Derived.Deep.QuietTactic
import Derived.BigQuiet
namespace Go.Proofs.YtejhmobpepllcaaDoor
open Go.RowKit
set_option linter.unusedSimpArgs false
set_option linter.unusedVariables false

def okLetter (b : UInt8) : Bool := b == 35 || b == 46
/-- A row of a printed page: not empty, all of '#' and '.'. -/
def rowB (l : List UInt8) : Bool := !l.isEmpty && l.all okLetter

/-- What Cut returns where there is a line feed. -/
def CutS (s : ByteArray) (i : Nat) (w : World) (e : Ending) (w' : World) : Prop :=
  ∃ a b : ByteArray, a.data.toList = s.data.toList.take i ∧ a.size = i ∧ b.data.toList = s.data.toList.drop (i + 1) ∧ b.size = s.size - (i + 1) ∧
    e = .returned (.tuple #[.string a, .string b, .bool true]) ∧ ∃ q, w' = w.drewN q

theorem slCut_none (s : ByteArray) (w : World) (hs : s.size ≤ 1000000) (h : Lib.indexByte s.data.toList 10 = -1) :
    Calls Tryd.prog 61 #[.string s, .string ⟨#[10]⟩] w fun e w' => e = .returned (.tuple #[.string s, .string ⟨#[]⟩, .bool false]) ∧ w = w' := by
  have HI := Lib.hid (Tryd.stringslite_Index_one s 10 w)
  have HH := Lib.hid h
  clear h
  go_enter Tryd.func61, Tryd.ntmps61
  go_wp2_with (go_at_call 83; refine HI.out.mono ?_; rintro e w1 ⟨rfl, rfl⟩; rw [HH.out])
  go_ret3
  exact ⟨rfl, rfl⟩

theorem slCut_some (s : ByteArray) (i : Nat) (w : World) (hs : s.size ≤ 1000000) (h : Lib.indexByte s.data.toList 10 = (i : Int)) (hi : i < s.size) :
    Calls Tryd.prog 61 #[.string s, .string ⟨#[10]⟩] w (CutS s i w) := by
  have HI := Lib.hid (Tryd.stringslite_Index_one s 10 w)
  have HH := Lib.hid h
  have h1 : (i : Int) + 1 ≤ (s.size : Int) := by omega
  have h2 : i + 1 ≤ s.size := by omega
  have h3 : i ≤ s.size := by omega
  clear h
  go_enter Tryd.func61, Tryd.ntmps61
  go_wp2_with (go_at_call 83; refine HI.out.mono ?_; rintro e w1 ⟨rfl, rfl⟩; rw [HH.out])
  go_quiet (fail)
  go_wp2_with fail
  go_ret3
  refine ⟨s.extract 0 i, s.extract (i + 1) s.size, ?_, ?_, ?_, ?_, rfl, _, rfl⟩
  · rw [Lib.extract_data]; simp
  · simp; omega
  · exact Lib.extract_to_end s (i + 1)
  · simp

theorem cut_none (s : ByteArray) (w : World) (hs : s.size ≤ 1000000) (h : Lib.indexByte s.data.toList 10 = -1) :
    Calls Tryd.prog 28 #[.string s, .string ⟨#[10]⟩] w fun e w' => e = .returned (.tuple #[.string s, .string ⟨#[]⟩, .bool false]) ∧ w = w' := by
  have HI := Lib.hid (slCut_none s w hs h)
  clear h
  go_enter Tryd.func28, Tryd.ntmps28
  go_wp2_with (go_at_call 61; refine HI.out.mono ?_; rintro e w1 ⟨rfl, rfl⟩)
  go_ret3
  exact ⟨rfl, rfl⟩

theorem cut_some (s : ByteArray) (i : Nat) (w : World) (hs : s.size ≤ 1000000) (h : Lib.indexByte s.data.toList 10 = (i : Int)) (hi : i < s.size) :
    Calls Tryd.prog 28 #[.string s, .string ⟨#[10]⟩] w (CutS s i w) := by
  have HI := Lib.hid (slCut_some s i w hs h hi)
  clear h
  go_enter Tryd.func28, Tryd.ntmps28
  go_wp2_with fail
  refine HI.out.mono ?_
  rintro e w1 ⟨a, b, ha, hz, hb, hy, rfl, q, rfl⟩
  have HA := Lib.hid ha
  have HZ := Lib.hid hz
  have HB := Lib.hid hb
  have HY := Lib.hid hy
  clear ha hz hb hy
  go_wp2_with fail
  go_ret3
  exact ⟨a, b, HA.out, HZ.out, HB.out, HY.out, rfl, q, rfl⟩

theorem get_byte (s : ByteArray) (k : Nat) (h : k < s.size) : s.data.toList[k]? = some s[k] := by
  rw [List.getElem?_eq_getElem (by simpa using h)]; rfl

theorem all_snoc (s : ByteArray) (k : Nat) (h : k < s.size) : (s.data.toList.take (k + 1)).all okLetter = ((s.data.toList.take k).all okLetter && okLetter s[k]) := by
  rw [List.take_succ_eq_append_getElem (by simpa using h), List.all_append]
  simp
  rfl

set_option maxHeartbeats 800000 in
theorem isRow_any (s : ByteArray) (w : World) (hs : s.size ≤ 1000000) :
    Calls Tryd.prog 29 #[.string s] w fun e w' => e = .returned (.bool (rowB s.data.toList)) ∧ w = w' := by
  go_enter Tryd.func29, Tryd.ntmps29
  go_wp2_with fail
  go_loop [6] (fun i => ∃ k : Nat, k ≤ s.size ∧ i = .int .i64 k ∧ Hid ((s.data.toList.take k).all okLetter = true)) (fun i => s.size - (intOf i).toNat)
  case atStart => exact ⟨0, Nat.zero_le _, rfl, Lib.hid (by simp)⟩
  case round =>
    obtain ⟨k, hk, rfl, hA⟩ := hrel
    by_cases hlt : k < s.size
    · have HS := Lib.hid (all_snoc s k hlt)
      have hbad : okLetter s[k] = false → rowB s.data.toList = false := fun h => by
        unfold rowB
        have : s.data.toList.all okLetter = false := by
          rw [← List.take_append_drop (k + 1) s.data.toList, List.all_append, HS.out, h]
          simp
        rw [this, Bool.and_false]
      have HBAD := Lib.hid hbad
      clear hbad
      by_cases h1 : (s[k].toNat : Int) = 35
      · have h1' : ((s[k].toNat : Int) != 35) = false := by simpa using h1
        have hok : okLetter s[k] = true := by
          have : s[k] = 35 := UInt8.toNat_inj.mp (by have : ((35 : UInt8).toNat : Int) = 35 := rfl; omega)
          rw [this]; rfl
        have HOK := Lib.hid hok
        clear h1 hok
        go_wp2_with fail
        go_round
        case rel => exact ⟨k + 1, by omega, by go_num, Lib.hid (by rw [HS.out, hA.out, HOK.out]; rfl)⟩
        case measure => simp [intOf]; omega
      · have h1' : ((s[k].toNat : Int) != 35) = true := by simpa using h1
        by_cases h2 : (s[k].toNat : Int) = 46
        · have h2' : ((s[k].toNat : Int) != 46) = false := by simpa using h2
          have hok : okLetter s[k] = true := by
            have : s[k] = 46 := UInt8.toNat_inj.mp (by have : ((46 : UInt8).toNat : Int) = 46 := rfl; omega)
            rw [this]; rfl
          have HOK := Lib.hid hok
          clear h1 h2 hok
          go_wp2_with fail
          go_round
          case rel => exact ⟨k + 1, by omega, by go_num, Lib.hid (by rw [HS.out, hA.out, HOK.out]; rfl)⟩
          case measure => simp [intOf]; omega
        · have h2' : ((s[k].toNat : Int) != 46) = true := by simpa using h2
          have hok : okLetter s[k] = false := by
            unfold okLetter
            have e1 : (s[k] == 35) = false := by
              simp only [beq_eq_false_iff_ne, ne_eq]
              intro e; apply h1; rw [e]; rfl
            have e2 : (s[k] == 46) = false := by
              simp only [beq_eq_false_iff_ne, ne_eq]
              intro e; apply h2; rw [e]; rfl
            rw [e1, e2]; rfl
          have HB := Lib.hid (HBAD.out hok)
          clear h1 h2 hok
          go_wp2_with fail
          go_ret
          exact ⟨by rw [HB.out]; rfl, rfl⟩
    · obtain rfl : k = s.size := by omega
      have hall : s.data.toList.all okLetter = true := by have h := hA.out; rwa [List.take_of_length_le (by simp)] at h
      have HALL := Lib.hid hall
      clear hall
      by_cases he : s.toList = []
      · have he' : s.toList.isEmpty = true := by rw [he]; rfl
        have HE := Lib.hid he
        go_wp2_with fail
        go_ret
        exact ⟨ret_bool (by unfold rowB; rw [← Lib.toList_data, HE.out]; rfl), rfl⟩
      · have he' : s.toList.isEmpty = false := by simpa using he
        have HE := Lib.hid he'
        clear he
        go_wp2_with fail
        go_ret
        exact ⟨ret_bool (by unfold rowB; rw [HALL.out, ← Lib.toList_data, HE.out]; rfl), rfl⟩

theorem trim_row (s : ByteArray) (w : World) (hs : s.size ≤ 1000000) :
    Calls Tryd.prog 36 #[.string s, .string ⟨#[35, 46]⟩] w fun e w' => e = .returned (.string ⟨(Lib.trimS s.data.toList [35, 46]).toArray⟩) ∧ Below w.heap.size w w' :=
  Any.strings_Trim_laid Tryd.lays160 (by kernel_rfl) s ⟨#[35, 46]⟩ w (by omega) (by decide) (ascii_of_all (by decide))

end Go.Proofs.YtejhmobpepllcaaDoor
