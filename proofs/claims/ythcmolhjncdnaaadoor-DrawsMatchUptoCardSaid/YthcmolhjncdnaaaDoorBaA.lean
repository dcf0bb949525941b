/-
  Digits: areDigits, checkDigit, CheckDigit, bars.
-/
import Derived.Test.YthcmolhjncdnaaaDoorName
import Derived.Test.YthcmolhjncdnaaaDoorShelf
namespace Go.Proofs.YthcmolhjncdnaaaDoor
open Go.RowKit
set_option linter.unusedSimpArgs false
set_option linter.unusedVariables false

def dig8 (b : UInt8) : Bool := decide (48 ≤ b.toNat ∧ b.toNat ≤ 57)
theorem digs_ok (b : UInt8) : ([48, 49, 50, 51, 52, 53, 54, 55, 56, 57] : List UInt8).contains b = dig8 b := by
  have : ∀ n : Fin 256, ([48, 49, 50, 51, 52, 53, 54, 55, 56, 57] : List UInt8).contains (UInt8.ofNat n.1) = dig8 (UInt8.ofNat n.1) := by decide +kernel
  have h := this ⟨b.toNat, b.toNat_lt⟩
  simpa using h
/-- So many bytes, all of them digits. -/
def digB (t : ByteArray) (n : Nat) : Bool := decide (t.size = n) && t.data.toList.all dig8

theorem dropWhile_nil8 (p : UInt8 → Bool) : ∀ l : List UInt8, l.dropWhile p = [] ↔ l.all p = true
  | [] => by simp
  | a :: l => by
    rw [List.dropWhile_cons]
    cases h : p a
    · simp [h]
    · simpa [h] using dropWhile_nil8 p l
theorem trimS_nil (l cs : List UInt8) (p : UInt8 → Bool) (h : ∀ b, cs.contains b = p b) : (Lib.trimS l cs).isEmpty = l.all p := by
  have e : (fun b => cs.contains b) = p := funext h
  unfold Lib.trimS Lib.trimLeftS Lib.trimRightS
  rw [e]
  cases hall : l.all p
  · have h1 : ¬ ((l.reverse.dropWhile p).reverse).all p = true := by
      intro h2
      rw [List.all_reverse] at h2
      cases hd : l.reverse.dropWhile p with
      | nil =>
        have := (dropWhile_nil8 p _).1 hd
        rw [List.all_reverse, hall] at this; cases this
      | cons a r =>
        have h3 := List.head?_dropWhile_not p l.reverse
        rw [hd] at h3 h2
        simp at h3 h2
        rw [h2.1] at h3; cases h3
    cases h2 : ((l.reverse.dropWhile p).reverse).dropWhile p with
    | nil => exact absurd ((dropWhile_nil8 p _).1 h2) h1
    | cons a r => rfl
  · have h1 : l.reverse.dropWhile p = [] := (dropWhile_nil8 p _).2 (by rw [List.all_reverse]; exact hall)
    rw [h1]; rfl

theorem trim_digs (s : ByteArray) (w : World) (hs : s.size ≤ 9223372036854775807) :
    Calls Tryd.prog 19 #[.string s, .string ⟨#[48, 49, 50, 51, 52, 53, 54, 55, 56, 57]⟩] w fun e w' => (∃ t : ByteArray, e = .returned (.string t) ∧ t.toList.isEmpty = s.data.toList.all dig8) ∧ Below w.heap.size w w' := by
  refine (Any.strings_Trim_laid Tryd.lays160 (by kernel_rfl) s ⟨#[48, 49, 50, 51, 52, 53, 54, 55, 56, 57]⟩ w hs (by decide) (ascii_of_all (by decide))).mono ?_
  rintro e w' ⟨rfl, hb⟩
  exact ⟨⟨_, rfl, by rw [Lib.toList_data]; exact trimS_nil _ _ _ digs_ok⟩, hb⟩

theorem areDigits_any (t : ByteArray) (n : Nat) (w : World) (hs : t.size ≤ 9223372036854775807) (hn : n ≤ 100) :
    Calls Tryd.prog 47 #[.string t, .int .i64 n] w fun e w' => e = .returned (.bool (digB t n)) ∧ Below w.heap.size w w' := by
  have HT := Lib.hid (fun w => trim_digs t w hs)
  by_cases h : t.size = n
  · have h1 : ((t.size : Int) == (n : Int)) = true := by simp [h]
    have HD := Lib.hid (show digB t n = t.data.toList.all dig8 by unfold digB; rw [decide_eq_true h]; rfl)
    go_enter Tryd.func47, Tryd.ntmps47
    go_wp2_with fail
    refine (HT.out _).mono ?_
    rintro e w1 ⟨⟨r, rfl, hr⟩, hb⟩
    rw [← HD.out] at hr
    have HB := Lib.hid hb
    clear hb
    go_wp2_with fail
    go_ret
    exact ⟨rfl, HB.out⟩
  · have h1 : ((t.size : Int) == (n : Int)) = false := by simp; omega
    have HD := Lib.hid (show digB t n = false by unfold digB; rw [decide_eq_false h]; rfl)
    go_enter Tryd.func47, Tryd.ntmps47
    go_wp2_with fail
    go_ret
    exact ⟨ret_bool HD.out.symm, Below.refl _ _⟩

/-- What the digits up to k come to, each second one three times. -/
def chkS (t : ByteArray) : Nat → Int
  | 0 => 0
  | k + 1 => chkS t k + (1 + (k % 2 * 2 : Nat)) * (byteAt t k - 48)
theorem digB_at {t : ByteArray} {n : Nat} (h : digB t n = true) (k : Nat) (hk : k < n) : 48 ≤ byteAt t k ∧ byteAt t k ≤ 57 := by
  unfold digB at h
  simp only [Bool.and_eq_true, decide_eq_true_eq, List.all_eq_true] at h
  have hl : k < t.data.toList.length := by
    have : t.data.toList.length = t.size := by rw [Array.length_toList]; rfl
    omega
  have := h.2 _ (List.getElem_mem hl)
  unfold dig8 at this
  rw [decide_eq_true_eq] at this
  unfold byteAt
  rw [List.getD_eq_getElem?_getD, List.getElem?_eq_getElem hl, Option.getD_some]
  omega
theorem chkS_le {t : ByteArray} {n : Nat} (hd : ∀ k, k < n → 48 ≤ byteAt t k ∧ byteAt t k ≤ 57) : ∀ k, k ≤ n → 0 ≤ chkS t k ∧ chkS t k ≤ 27 * k
  | 0, _ => by simp [chkS]
  | k + 1, hk => by
    have ih := chkS_le hd k (by omega)
    obtain ⟨a, b⟩ := hd k (by omega)
    have h2 : k % 2 = 0 ∨ k % 2 = 1 := by omega
    rw [chkS]
    rcases h2 with h | h <;> rw [h] <;> simp <;> omega

set_option maxHeartbeats 800000 in
theorem checkDigit_any (t : ByteArray) (w : World) (hn : t.size ≤ 100) (hd : ∀ k, k < t.size → 48 ≤ byteAt t k ∧ byteAt t k ≤ 57) :
    Calls Tryd.prog 48 #[.string t] w fun e w' => e = .returned (.int .i64 ((10 - chkS t t.size % 10) % 10)) ∧ w = w' := by
  have HC := Lib.hid (chkS_le hd)
  have HD := Lib.hid hd
  clear hd
  go_enter Tryd.func48, Tryd.ntmps48
  go_wp2_with fail
  go_loop [3, 8] (fun s i => ∃ k : Nat, k ≤ t.size ∧ i = .int .i64 k ∧ s = .int .i64 (chkS t k)) (fun _ i => t.size - (intOf i).toNat)
  case atStart => exact ⟨0, Nat.zero_le _, rfl, rfl⟩
  case round =>
    obtain ⟨k, hk, rfl, rfl⟩ := hrel
    by_cases hlt : k < t.size
    · have i1 : (k : Int) < (t.size : Int) := by omega
      have BK := Lib.hid (byteAt_get t k hlt)
      obtain ⟨d1, d2⟩ := HD.out k hlt
      obtain ⟨c1, c2⟩ := HC.out k hk
      have HS := Lib.hid (show chkS t (k + 1) = chkS t k + (1 + (k % 2 * 2 : Nat)) * (byteAt t k - 48) from rfl)
      obtain ⟨b, hb⟩ : ∃ b : Int, b = (t[k].toNat : Int) := ⟨_, rfl⟩
      rw [← BK.out, ← hb] at d1 d2 HS
      have hm : (k : Int).tmod 2 = ((k % 2 : Nat) : Int) := by rw [Int.tmod_eq_emod_of_nonneg (by omega)]; omega
      have h2 : k % 2 = 0 ∨ k % 2 = 1 := by omega
      generalize chkS t k = s at *
      obtain ⟨s', hs'⟩ : ∃ s', s' = chkS t (k + 1) := ⟨_, rfl⟩
      rw [← hs'] at HS
      have HSN := Lib.hid hs'
      clear hs'
      have wb : IntKind.u8.wrap (b - 48) = b - 48 := IntWalk.u8_in _ (by omega)
      have wc : IntKind.i64.wrap (b - 48) = b - 48 := IntWalk.i64_in _ (by omega)
      rcases h2 with h2 | h2
      · rw [h2] at hm HS
        have HE := Lib.hid (show wrap64 (s + ((t[k].toNat : Int) - 48) % 256) = s' by
          rw [HS.out, ← hb, show (b - 48) % 256 = b - 48 by omega]; simp; unfold wrap64; omega)
        clear h2 c1 c2 d1 d2 wb wc
        go_wp2_with fail
        go_round
        case rel => exact ⟨k + 1, by omega, by go_num, by rw [HE.out, HSN.out]⟩
        case measure => simp [intOf]; omega
      · rw [h2] at hm HS
        have w3 : IntKind.i64.wrap (3 * (b - 48)) = 3 * (b - 48) := IntWalk.i64_in _ (by omega)
        have HE := Lib.hid (show wrap64 (s + 3 * (((t[k].toNat : Int) - 48) % 256)) = s' by
          rw [HS.out, ← hb, show (b - 48) % 256 = b - 48 by omega]; simp; unfold wrap64; omega)
        clear h2 c1 c2 d1 d2 wb wc
        go_wp2_with fail
        go_round
        case rel => exact ⟨k + 1, by omega, by go_num, by rw [HE.out, HSN.out]⟩
        case measure => simp [intOf]; omega
    · obtain rfl : k = t.size := by omega
      obtain ⟨c1, c2⟩ := HC.out _ hk
      obtain ⟨s, hs⟩ : ∃ s, s = chkS t t.size := ⟨_, rfl⟩
      rw [← hs] at c1 c2
      have HSN := Lib.hid hs
      rw [show (Value.int .i64 (chkS t t.size)) = .int .i64 s by rw [hs]]
      clear hs
      have m1 : s.tmod 10 = s % 10 := Int.tmod_eq_emod_of_nonneg c1
      have m2 : IntKind.i64.wrap (10 - s % 10) = 10 - s % 10 := IntWalk.i64_in _ (by omega)
      have m3 : (10 - s % 10).tmod 10 = (10 - s % 10) % 10 := Int.tmod_eq_emod_of_nonneg (by omega)
      have HQ := Lib.hid (show 0 ≤ s from c1)
      go_wp2_with fail
      go_ret
      exact ⟨ret_int (by rw [← HSN.out]), rfl⟩

theorem bars_true (w : World) : Calls Tryd.prog 9 #[] w fun e w' => e = .returned (.bool true) ∧ Below w.heap.size w w' := by
  have hd : digB ⟨#[52, 48, 48, 54, 51, 56, 49, 51, 51, 51, 57, 51]⟩ 12 = true := by decide
  have HC := Lib.hid (fun w => checkDigit_any ⟨#[52, 48, 48, 54, 51, 56, 49, 51, 51, 51, 57, 51]⟩ w (by decide) (fun k hk => digB_at hd k hk))
  have HA := Lib.hid (fun w => areDigits_any ⟨#[52, 48, 48, 54, 51, 56, 49, 51, 51, 51, 57, 51]⟩ 12 w (by decide) (by decide))
  rw [hd] at HA
  rw [show (10 - chkS ⟨#[52, 48, 48, 54, 51, 56, 49, 51, 51, 51, 57, 51]⟩ (ByteArray.mk #[52, 48, 48, 54, 51, 56, 49, 51, 51, 51, 57, 51]).size % 10) % 10 = 1 by decide] at HC
  clear hd
  have HD : Hid (∀ w, Calls Tryd.prog 24 #[.string ⟨#[52, 48, 48, 54, 51, 56, 49, 51, 51, 51, 57, 51]⟩] w fun e w' => e = .returned (.tuple #[.int .i64 1, .int .i64 0]) ∧ Below w.heap.size w w') := by
    refine Lib.hid (fun w => ?_)
    go_enter Tryd.func24, Tryd.ntmps24
    go_wp2_with fail
    refine (HA.out _).mono ?_
    rintro e w1 ⟨rfl, hb⟩
    have HB := Lib.hid hb
    clear hb
    go_wp2_with (first | (go_at_call 48; (with_reducible refine (HC.out _).mono ?_); rintro e w' ⟨rfl, rfl⟩))
    go_ret2
    exact ⟨rfl, HB.out⟩
  go_enter Tryd.func9, Tryd.ntmps9
  go_wp2_with fail
  refine (HD.out _).mono ?_
  rintro e w1 ⟨rfl, hb⟩
  have HB := Lib.hid hb
  clear hb
  go_wp2_with fail
  go_ret
  exact ⟨rfl, HB.out⟩

end Go.Proofs.YthcmolhjncdnaaaDoor
