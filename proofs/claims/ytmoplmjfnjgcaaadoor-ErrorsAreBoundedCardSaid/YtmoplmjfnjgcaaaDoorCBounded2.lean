/-
  What bounded_holds leans on: contracts of the functions that it calls.
-/
import Derived.Test.YtmoplmjfnjgcaaaDoorRows
import Derived.WalkKit
import Derived.WalkSpells
import Derived.WalkLawsBesides
import Derived.Lib.Hide
import Derived.Deep.RegionHeld3
import Derived.Shelf.Abstract
import Derived.Lib.TrimByte
import Derived.Shelf.Strings.Trim
import Derived.Shelf.Strings.Repeat
import Derived.Test.YtmoplmjfnjgcaaaDoorProg
import Derived.Lib.MinMax
import Derived.Deep.QuietTactic
import Derived.BigQuiet
import Derived.Deep.CutRange
import Derived.Deep.DeepCutAuto
import Derived.Laws.EntriesVeiled
import Derived.StillTailTactics
import Derived.Deep.OwnRows
import Derived.Test.YtmoplmjfnjgcaaaDoorCBounded1
namespace Go.Proofs.YtmoplmjfnjgcaaaDoor
open Go.RowKit
set_option linter.unusedSimpArgs false
set_option linter.unusedVariables false

def wrdB (s : ByteArray) (a e : Nat) : Bool := decide (a < e ∧ lstN s e - a ≤ 40)

theorem letB_of (c : Int) (h : inwB c = true) (h39 : c ≠ 39) : letB c = true := by
  unfold inwB at h
  simpa [h39] using h

/-- What is asked of a part without apostrophes at its ends. -/
theorem isWord_sub (s : ByteArray) (a e : Nat) (w : World) (ha : a ≤ e) (he : e ≤ s.size) (hs : s.size ≤ 9223372036854775807) (hin : ∀ j, a ≤ j → j < e → inwB (byteAt s j) = true) (h39 : a < e → byteAt s a ≠ 39) :
    Calls Tryd.prog 13 #[.string (s.extract a (wrdEnd s a e))] w fun r w' => r = .returned (.bool (wrdB s a e)) ∧ w = w' := by
  obtain ⟨l1, l2, l3⟩ := lstN_spec s e
  by_cases h : a < e
  · have hl := lstN_above s e a h (h39 h)
    have hz : (s.extract a (lstN s e)).size = lstN s e - a := size_sub s a _ (by omega)
    by_cases h4 : lstN s e - a ≤ 40
    · have hb : wrdB s a e = true := decide_eq_true ⟨h, h4⟩
      rw [hb]
      unfold wrdEnd
      rw [if_pos h]
      refine isWord_yes _ w (by rw [hz]; omega) ?_ ?_ ?_
      · rw [byteAt_sub s a _ 0 (by omega) (by omega)]
        exact letB_of _ (hin _ (by omega) (by omega)) (h39 h)
      · rw [hz, byteAt_sub s a _ _ (by omega) (by omega), show a + (lstN s e - a - 1) = lstN s e - 1 by omega]
        exact letB_of _ (hin _ (by omega) (by omega)) (l3 (by omega))
      · intro j _ hj
        rw [hz] at hj
        rw [byteAt_sub s a _ _ (by omega) hj]
        exact hin _ (by omega) (by omega)
    · have hb : wrdB s a e = false := decide_eq_false (fun k => h4 k.2)
      rw [hb]
      unfold wrdEnd
      rw [if_pos h]
      exact isWord_no _ w (by rw [hz]; omega) (by rw [hz]; omega)
  · have hb : wrdB s a e = false := decide_eq_false (fun k => h k.1)
    rw [hb]
    unfold wrdEnd
    rw [if_neg h]
    have hz : (s.extract a e).size = e - a := size_sub s a _ he
    exact isWord_no _ w (by rw [hz]; omega) (by rw [hz]; omega)

theorem wrdEnd_ok (s : ByteArray) (a e : Nat) (ha : a ≤ e) (h39 : a < e → byteAt s a ≠ 39) : a ≤ wrdEnd s a e ∧ wrdEnd s a e ≤ e := by
  obtain ⟨l1, l2, l3⟩ := lstN_spec s e
  unfold wrdEnd
  by_cases h : a < e
  · have := lstN_above s e a h (h39 h)
    rw [if_pos h]; omega
  · rw [if_neg h]; omega

set_option maxHeartbeats 2000000 in
set_option maxRecDepth 100000 in
theorem split_any (s : ByteArray) (w : World) (hs : s.size ≤ 1048576) :
    Calls Tryd.prog 6 #[.string s] w fun r w' => ∃ v, r = .returned v ∧ TokRow w' w.heap.size s (tkAll s) v ∧ Below w.heap.size w w' := by
  obtain ⟨i0, hi, hz0, hz1, hz2⟩ := info_parts info_token
  have T0 := Lib.hid (show TokRow w w.heap.size s (tkS s 0).2 (.slice none 0 0) ∧ (0 ≤ s.size → runBeg s 0 = 0) ∧ Below w.heap.size w w from ⟨TokRow.nil _ _ _, fun _ => rfl, Below.refl _ _⟩)
  have D0 := Lib.hid (show (tkS s 0).1 = 0 from rfl)
  go_enter Tryd.func6, Tryd.ntmps6
  go_wp2_with fail
  go_loopw [3, 4, 5] (fun v3 v4 i wr => ∃ k : Nat, k ≤ s.size + 1 ∧ i = .int .i64 k ∧ v4 = .int .i64 ((tkS s (min k s.size)).1 : Nat) ∧ Hid (TokRow wr w.heap.size s (tkS s (min k s.size)).2 v3 ∧ (k ≤ s.size → runBeg s k = k) ∧ Below w.heap.size w wr)) (fun _ _ i _ => s.size + 1 - (intOf i).toNat)
  case atStart => exact ⟨0, by omega, rfl, by rw [show min 0 s.size = 0 by omega, D0.out]; rfl, by rw [show min 0 s.size = 0 by omega]; exact T0⟩
  case round =>
    obtain ⟨k, hk, rfl, rfl, HR⟩ := hrel
    clear T0
    obtain ⟨wo, rfl⟩ : ∃ wo : World, wo = wr := ⟨_, rfl⟩
    by_cases hlt : k < s.size
    · rw [show min k s.size = k by omega] at HR ⊢
      have hb := HR.out.2.1 (by omega)
      obtain ⟨t1, t2⟩ := tkS_at s k hb
      obtain ⟨e1, e2, e3, e4⟩ := endOf_spec s k (by omega)
      have e5 := endOf_in s k
      obtain ⟨f1, f2, f3, f4⟩ := fstN_spec s (endOf s k) (endOf s k - k) (by omega)
      have hnx := tkS_next s k (endOf s k) hb e3 e1 e4
      have hok := hndT_ok s (tkS s k) k (endOf s k) e1 t1 t2
      have C1 := Lib.hid (fun w => wordAt_any s k w (by omega) (by omega))
      obtain ⟨b1, b2⟩ := wrdEnd_ok s _ _ f2 f4
      have C2 := Lib.hid (fun w => isWord_sub s _ _ w f2 e2 (by omega) (fun j h1 h2 => e3 j (by omega) h2) f4)
      have C3 := Lib.hid (fun w => runEnd_any s (wrdEnd s (fstN s (endOf s k) (endOf s k - k)) (endOf s k)) w (by omega) (by omega))
      rw [e5 _ (by omega) (by omega) b2] at C3
      have HN := Lib.hid hnx
      have HH := Lib.hid (show hndT s (tkS s k) k (endOf s k) = if wrdB s (fstN s (endOf s k) (endOf s k - k)) (endOf s k) = true then (wrdEnd s (fstN s (endOf s k) (endOf s k - k)) (endOf s k), (tkS s k).2 ++ gapT (tkS s k).1 (fstN s (endOf s k) (endOf s k - k)) ++ [(fstN s (endOf s k) (endOf s k - k), wrdEnd s (fstN s (endOf s k) (endOf s k - k)) (endOf s k), true)]) else tkS s k by
        unfold hndT wrdB wrdEnd
        by_cases h : fstN s (endOf s k) (endOf s k - k) < endOf s k ∧ lstN s (endOf s k) - fstN s (endOf s k) (endOf s k - k) ≤ 40
        · rw [if_pos h, if_pos (decide_eq_true h), if_pos h.1]
        · rw [if_neg h, if_neg (by simpa using h)])
      have HSK := Lib.hid (tkS_skip s (endOf s k) e4)
      have HT := Lib.hid HR.out.1
      have HBL := Lib.hid HR.out.2.2
      have TLN := Lib.hid (show (tkS s k).2.length ≤ s.size by have := chn_len _ _ _ t2; omega)
      clear HR hb e3 e4 e5 f3 f4 hnx hok t2
      generalize fstN s (endOf s k) (endOf s k - k) = a at *
      generalize endOf s k = e at *
      generalize wrdEnd s a e = b at *
      generalize wrdB s a e = bw at *
      obtain ⟨dT, hdT⟩ : ∃ dT, dT = tkS s k := ⟨_, rfl⟩
      rw [← hdT] at HT TLN t1 HH HN ⊢
      obtain ⟨d, T⟩ := dT
      simp only at HT TLN t1 HH ⊢
      clear hdT
      go_upto_if 24 with (first | (go_at_call 12; (with_reducible refine (C1.out _).mono ?_); rintro e w' ⟨rfl, rfl⟩) | (go_at_call 13; (with_reducible refine (C2.out _).mono ?_); rintro e w' ⟨rfl, rfl⟩))
      go_cut [3, 4] from 24 to 44 (fun v3 v4 wx => ∃ d' T', v4 = .int .i64 (d' : Nat) ∧ Hid (hndT s (d, T) k e = (d', T') ∧ TokRow wx w.heap.size s T' v3 ∧ Below w.heap.size w wx))
      case first =>
        cases bw
        · go_wp2_with fail
          go_meet
          case rel => exact ⟨d, T, rfl, Lib.hid ⟨by rw [HH.out]; rfl, HT.out, HBL.out⟩⟩
        · by_cases hg : d < a
          · have i2 : (d : Int) < (a : Int) := by omega
            have HQ := Lib.hid (show hndT s (d, T) k e = (b, T ++ [(d, a, false)] ++ [(a, b, true)]) by rw [HH.out, if_pos rfl]; unfold gapT; rw [if_pos hg])
            go_wp2_with (at_builtin; refine wpList_append_own _ rfl _ _ 23 rfl w.heap.size 26 i0 (.agg #[.string ⟨#[]⟩, .bool false]) 2 24 Tryd.underlying23 hi hz0 hz1 hz2 rfl (by decide) _ _ _ rfl (World.ownsRow.alloc HT.out _) ⟨wo.heap.size, 0, none⟩ 1 1 [.string (s.extract d a), .bool false] rfl rfl (cells_two_new _ _ _ _) ?q1x2 ?q1x3 ?q1x4 ?q1x5 ?_)
            case q1x2 => first | exact ⟨rfl, rfl⟩ | (intro u hu; simp at hu; rcases hu with rfl | rfl <;> rfl)
            case q1x3 => have := TLN.out; unfold maxLen; simp <;> omega
            case q1x4 => have := TLN.out; simp <;> omega
            case q1x5 => have := HBL.out.size; simp; omega
            intro v' w5 hown hgr _
            have T5 := Lib.hid (show TokRow w5 w.heap.size s (T ++ [(d, a, false)]) v' by unfold TokRow; rw [← flatT_snoc, List.length_append (bs := [_]), List.length_singleton]; exact hown)
            have B5 := Lib.hid ((below_alloc HBL.out (.cells #[.string (s.extract d a), .bool false] 26)).grown hgr (by have := HBL.out.size; simp; omega) (fun j hj => (World.ownsRow.lt HT.out j hj).1))
            clear hown hgr
            go_wp2_with (at_builtin; refine wpList_append_own _ rfl _ _ 23 rfl w.heap.size 26 i0 (.agg #[.string ⟨#[]⟩, .bool false]) 2 24 Tryd.underlying23 hi hz0 hz1 hz2 rfl (by decide) _ _ _ rfl (World.ownsRow.alloc T5.out _) ⟨w5.heap.size, 0, none⟩ 1 1 [.string (s.extract a b), .bool true] rfl rfl (cells_two_new _ _ _ _) ?q2x2 ?q2x3 ?q2x4 ?q2x5 ?_)
            case q2x2 => first | exact ⟨rfl, rfl⟩ | (intro u hu; simp at hu; rcases hu with rfl | rfl <;> rfl)
            case q2x3 => have := TLN.out; unfold maxLen; simp <;> omega
            case q2x4 => have := TLN.out; simp <;> omega
            case q2x5 => have := B5.out.size; simp; omega
            intro v' w6 hown hgr _
            have T6 := Lib.hid (show TokRow w6 w.heap.size s (T ++ [(d, a, false)] ++ [(a, b, true)]) v' by unfold TokRow; rw [← flatT_snoc, List.length_append (bs := [_]), List.length_singleton]; rw [List.length_append, List.length_singleton]; exact hown)
            have B6 := Lib.hid ((below_alloc B5.out (.cells #[.string (s.extract a b), .bool true] 26)).grown hgr (by have := B5.out.size; simp; omega) (fun j hj => (World.ownsRow.lt T5.out j hj).1))
            clear hown hgr
            go_wp2_with fail
            go_meet
            case rel => exact ⟨b, _, rfl, Lib.hid ⟨HQ.out, T6.out, B6.out⟩⟩
          · have i2 : ¬ (d : Int) < (a : Int) := by omega
            have HQ := Lib.hid (show hndT s (d, T) k e = (b, T ++ [(a, b, true)]) by rw [HH.out, if_pos rfl]; unfold gapT; rw [if_neg hg, List.append_nil])
            go_wp2_with (at_builtin; refine wpList_append_own _ rfl _ _ 23 rfl w.heap.size 26 i0 (.agg #[.string ⟨#[]⟩, .bool false]) 2 24 Tryd.underlying23 hi hz0 hz1 hz2 rfl (by decide) _ _ _ rfl (World.ownsRow.alloc HT.out _) ⟨wo.heap.size, 0, none⟩ 1 1 [.string (s.extract a b), .bool true] rfl rfl (cells_two_new _ _ _ _) ?q3x2 ?q3x3 ?q3x4 ?q3x5 ?_)
            case q3x2 => first | exact ⟨rfl, rfl⟩ | (intro u hu; simp at hu; rcases hu with rfl | rfl <;> rfl)
            case q3x3 => have := TLN.out; unfold maxLen; simp <;> omega
            case q3x4 => have := TLN.out; simp <;> omega
            case q3x5 => have := HBL.out.size; simp; omega
            intro v' w5 hown hgr _
            have T5 := Lib.hid (show TokRow w5 w.heap.size s (T ++ [(a, b, true)]) v' by unfold TokRow; rw [← flatT_snoc, List.length_append (bs := [_]), List.length_singleton]; exact hown)
            have B5 := Lib.hid ((below_alloc HBL.out (.cells #[.string (s.extract a b), .bool true] 26)).grown hgr (by have := HBL.out.size; simp; omega) (fun j hj => (World.ownsRow.lt HT.out j hj).1))
            clear hown hgr
            go_wp2_with fail
            go_meet
            case rel => exact ⟨b, _, rfl, Lib.hid ⟨HQ.out, T5.out, B5.out⟩⟩
      case rest =>
        obtain ⟨d', T', rfl, HC⟩ := hcut
        have HE := Lib.hid (show tkS s (min (e + 1) s.size) = (d', T') ∧ (e + 1 ≤ s.size → runBeg s (e + 1) = e + 1) by
          by_cases he : e < s.size
          · rw [show min (e + 1) s.size = e + 1 by omega, HSK.out.1, HN.out, HC.out.1]
            exact ⟨rfl, fun _ => HSK.out.2⟩
          · rw [show min (e + 1) s.size = e by omega, HN.out, HC.out.1]
            exact ⟨rfl, fun h => by omega⟩)
        clear HT HBL
        go_wp2_with (first | (go_at_call 14; (with_reducible refine (C3.out _).mono ?_); rintro e w' ⟨rfl, rfl⟩))
        go_roundw
        case rel => exact ⟨e + 1, by omega, by go_num, by rw [HE.out.1], Lib.hid ⟨by rw [HE.out.1]; exact HC.out.2.1, HE.out.2, HC.out.2.2⟩⟩
        case measure => simp [intOf]; omega
    · rw [show min k s.size = s.size by omega] at HR ⊢
      have ht := tkS_ok s s.size
      rw [inw_end] at ht
      simp only [Bool.false_eq_true, if_false] at ht
      obtain ⟨t1, t2⟩ := ht
      have TLN := Lib.hid (show (tkS s s.size).2.length ≤ s.size by have := chn_len _ _ _ t2; omega)
      have HA := Lib.hid (show tkAll s = (tkS s s.size).2 ++ gapT (tkS s s.size).1 s.size from rfl)
      have HT := Lib.hid HR.out.1
      have HBL := Lib.hid HR.out.2.2
      clear HR t2
      generalize tkS s s.size = dT at *
      obtain ⟨d, T⟩ := dT
      simp only at *
      have j1 : ¬ (k : Int) < (s.size : Int) := by omega
      by_cases hg : d < s.size
      · have i2 : (d : Int) < (s.size : Int) := by omega
        have HQ := Lib.hid (show tkAll s = T ++ [(d, s.size, false)] by rw [HA.out]; unfold gapT; rw [if_pos hg])
        go_wp2_with (at_builtin; refine wpList_append_own _ rfl _ _ 23 rfl w.heap.size 26 i0 (.agg #[.string ⟨#[]⟩, .bool false]) 2 24 Tryd.underlying23 hi hz0 hz1 hz2 rfl (by decide) _ _ _ rfl (World.ownsRow.alloc HT.out _) ⟨wo.heap.size, 0, none⟩ 1 1 [.string (s.extract d s.size), .bool false] rfl rfl (cells_two_new _ _ _ _) ?q4x2 ?q4x3 ?q4x4 ?q4x5 ?_)
        case q4x2 => first | exact ⟨rfl, rfl⟩ | (intro u hu; simp at hu; rcases hu with rfl | rfl <;> rfl)
        case q4x3 => have := TLN.out; unfold maxLen; simp <;> omega
        case q4x4 => have := TLN.out; simp <;> omega
        case q4x5 => have := HBL.out.size; simp; omega
        intro v' w5 hown hgr _
        have T5 := Lib.hid (show TokRow w5 w.heap.size s (T ++ [(d, s.size, false)]) v' by unfold TokRow; rw [← flatT_snoc, List.length_append (bs := [_]), List.length_singleton]; exact hown)
        have B5 := Lib.hid ((below_alloc HBL.out (.cells #[.string (s.extract d s.size), .bool false] 26)).grown hgr (by have := HBL.out.size; simp; omega) (fun j hj => (World.ownsRow.lt HT.out j hj).1))
        clear hown hgr
        go_wp2_with fail
        go_ret
        exact ⟨_, rfl, by rw [HQ.out]; exact T5.out, B5.out⟩
      · have i2 : ¬ (d : Int) < (s.size : Int) := by omega
        have HQ := Lib.hid (show tkAll s = T by rw [HA.out]; unfold gapT; rw [if_neg hg, List.append_nil])
        go_wp2_with fail
        go_ret
        exact ⟨_, rfl, by rw [HQ.out]; exact HT.out, HBL.out⟩

end Go.Proofs.YtmoplmjfnjgcaaaDoor
namespace Go.Proofs.YtmoplmjfnjgcaaaDoor
open Go.RowKit
set_option linter.unusedSimpArgs false
set_option linter.unusedVariables false

/-- A column ahead of the bytes that stand alone. -/
def levM (s t : ByteArray) (j : Nat) (p : Nat → Nat) : Nat → Nat
  | 0 => p 0 + 100
  | i + 1 => min (p i + (if byteAt s i = byteAt t j then 0 else 100)) (p (i + 1) + 100)
def levC (s t : ByteArray) (j : Nat) (p : Nat → Nat) : Nat → Nat
  | 0 => p 0 + 100
  | i + 1 => min (levM s t j p (i + 1)) (levC s t j p i + 100)
/-- What it costs to make the first j bytes of t of the first i ones of s. -/
def lev (s t : ByteArray) : Nat → Nat → Nat
  | 0 => fun i => i * 100
  | j + 1 => levC s t j (lev s t j)

theorem lev_le (s t : ByteArray) (j i : Nat) : lev s t j i ≤ (i + j) * 100 := by
  induction j generalizing i with
  | zero => simp [lev]
  | succ j ih =>
    show levC s t j (lev s t j) i ≤ _
    induction i with
    | zero => have := ih 0; simp only [levC]; omega
    | succ i ih2 => simp only [levC]; omega
theorem levM_le (s t : ByteArray) (j i : Nat) : levM s t j (lev s t j) i ≤ (i + j + 1) * 100 := by
  cases i with
  | zero => have := lev_le s t j 0; simp only [levM]; omega
  | succ i => have := lev_le s t j (i + 1); simp only [levM]; omega

/-- Two texts of one letter alone. -/
theorem lev_same (s t : ByteArray) (n m : Nat) (h : ∀ i j, i < n → j < m → byteAt s i = byteAt t j) (j i : Nat) (hi : i ≤ n) (hj : j ≤ m) : lev s t j i = (max i j - min i j) * 100 := by
  induction j generalizing i with
  | zero => show i * 100 = _; rw [show max i 0 - min i 0 = i by omega]
  | succ j ih =>
    show levC s t j (lev s t j) i = _
    induction i with
    | zero => have := ih 0 (by omega) (by omega); simp only [levC]; omega
    | succ i ih2 =>
      have h1 := ih i (by omega) (by omega)
      have h2 := ih (i + 1) hi (by omega)
      have h3 := ih2 (by omega)
      simp only [levC, levM]
      rw [if_pos (h i j (by omega) (by omega)), h1, h2, h3]
      omega

/-- What stands in memory but one block. -/
def Bar (w w' : World) (b c : Nat) : Prop := (w'.os = w.os ∧ w'.tape = w.tape ∧ w'.output = w.output) ∧ w.heap.size ≤ w'.heap.size ∧ ∀ k, k < w.heap.size → k ≠ b → k ≠ c → w'.heap[k]? = w.heap[k]?
theorem Bar.refl (w : World) (b c : Nat) : Bar w w b c := ⟨⟨rfl, rfl, rfl⟩, Nat.le_refl _, fun _ _ _ _ => rfl⟩
theorem Bar.drewN {w w' : World} {b c : Nat} (h : Bar w w' b c) (q : Nat) : Bar w (w'.drewN q) b c := h
theorem Bar.drew {w w' : World} {b c : Nat} (h : Bar w w' b c) : Bar w w'.drew b c := h
theorem Bar.trans {w w' w'' : World} {b c : Nat} (h : Bar w w' b c) (k : Bar w' w'' b c) : Bar w w'' b c :=
  ⟨⟨k.1.1.trans h.1.1, k.1.2.1.trans h.1.2.1, k.1.2.2.trans h.1.2.2⟩, Nat.le_trans h.2.1 k.2.1, fun j hj h1 h2 => (k.2.2 j (Nat.lt_of_lt_of_le hj h.2.1) h1 h2).trans (h.2.2 j hj h1 h2)⟩
theorem Bar.set1 {w w' : World} {b c : Nat} (h : Bar w w' b c) (o : Nat) (v : Value) : Bar w (w'.setCell ⟨b, o, none⟩ v) b c :=
  ⟨h.1, by simpa using h.2.1, fun k hk h1 h2 => (Below.heap_setCell _ _ _ _ h1).trans (h.2.2 k hk h1 h2)⟩
theorem Bar.set2 {w w' : World} {b c : Nat} (h : Bar w w' b c) (o : Nat) (v : Value) : Bar w (w'.setCell ⟨c, o, none⟩ v) b c :=
  ⟨h.1, by simpa using h.2.1, fun k hk h1 h2 => (Below.heap_setCell _ _ _ _ h2).trans (h.2.2 k hk h1 h2)⟩
theorem Bar.row {w w' : World} {b c r n : Nat} {t : TypeId} {f : Nat → Value} (h : Bar w w' b c) (hr : w.rowIs r t n f) (h1 : r ≠ b) (h2 : r ≠ c) : w'.rowIs r t n f := hr.of_block (h.2.2 r hr.lt h1 h2)
theorem Bar.below {w0 w w' : World} {b c : Nat} (h : Bar w w' b c) (k : Below w0.heap.size w0 w) (h1 : w0.heap.size ≤ b) (h2 : w0.heap.size ≤ c) : Below w0.heap.size w0 w' :=
  k.trans ⟨h.1.1, h.1.2.1, h.1.2.2, h.2.1, fun j hj => h.2.2 j (by have := k.size; omega) (by omega) (by omega)⟩

/-- The block of costs. -/
def CostB (w : World) (s : ByteArray) (cb kb lb m : Nat) : Prop :=
  ∃ A : Array Value, w.heap[cb]? = some (.cells A 86 (0, 0)) ∧ A[0]? = some (.string s) ∧ A[1]? = some (.slice (some ⟨kb, 0, none⟩) (m + 1) (m + 1)) ∧ A[2]? = some (.slice (some ⟨lb, 0, none⟩) (m + 1) (m + 1)) ∧ ∀ x, x < 256 → A[3 + x]? = some (.slice none 0 0)
theorem CostB.of_block {w w' : World} {s : ByteArray} {cb kb lb m : Nat} (h : CostB w s cb kb lb m) (e : w'.heap[cb]? = w.heap[cb]?) : CostB w' s cb kb lb m := by
  obtain ⟨A, h1, h2⟩ := h
  exact ⟨A, e.trans h1, h2⟩
theorem CostB.lt {w : World} {s : ByteArray} {cb kb lb m : Nat} (h : CostB w s cb kb lb m) : cb < w.heap.size := by
  obtain ⟨A, h1, h2⟩ := h
  exact (Array.getElem?_eq_some_iff.1 h1).1
theorem CostB.cells {w : World} {s : ByteArray} {cb kb lb m : Nat} (h : CostB w s cb kb lb m) :
    w.cell? ⟨cb, 0, none⟩ = some (.string s) ∧ w.cell? ⟨cb, 1, none⟩ = some (.slice (some ⟨kb, 0, none⟩) (m + 1) (m + 1)) ∧ w.cell? ⟨cb, 2, none⟩ = some (.slice (some ⟨lb, 0, none⟩) (m + 1) (m + 1)) ∧ ∀ x, x < 256 → w.cell? ⟨cb, 3 + x, none⟩ = some (.slice none 0 0) := by
  obtain ⟨A, h1, h2, h3, h4, h5⟩ := h
  refine ⟨by simp [World.cell?, h1, h2], by simp [World.cell?, h1, h3], by simp [World.cell?, h1, h4], fun x hx => by simp [World.cell?, h1, h5 x hx]⟩

/-- Costs with all their columns; what the columns hold is said apart. -/
structure Costs (w : World) (s : ByteArray) (cb kb lb n m : Nat) (cB : Nat → Nat) : Prop where
  c : CostB w s cb kb lb m
  k : w.rowIs kb 82 (m + 1) (fun j => .slice (some ⟨cB j, 0, none⟩) (n + 1) (n + 1))
  l : ∃ f : Nat → Int, w.rowIs lb 3 (m + 1) (fun j => .int .i64 (f j))
def ColIs (w : World) (b n : Nat) (f : Nat → Nat) : Prop := w.rowIs b 3 (n + 1) (fun i => .int .i64 (f i : Nat))
/-- Blocks that are apart. -/
structure CostsApart (cb kb lb m : Nat) (cB : Nat → Nat) : Prop where
  a : cb ≠ kb ∧ cb ≠ lb ∧ kb ≠ lb
  b : ∀ j, j ≤ m → cB j ≠ cb ∧ cB j ≠ kb ∧ cB j ≠ lb
  n : ∀ j, j < m → cB (j + 1) ≠ cB j

end Go.Proofs.YtmoplmjfnjgcaaaDoor
namespace Go.Proofs.YtmoplmjfnjgcaaaDoor
open Go.RowKit
set_option linter.unusedSimpArgs false
set_option linter.unusedVariables false

/-- What column p + 1 holds when i bytes of it are made ahead of those that stand alone, and behind. -/
def mixA (g h : Nat → Nat) (k i : Nat) : Nat := if i ≤ k then g i else h i
theorem mixA_set (g h : Nat → Nat) (k i : Nat) : mixA g h (k + 1) i = if i = k + 1 then g (k + 1) else mixA g h k i := by
  unfold mixA
  by_cases e : i = k + 1
  · subst e; simp
  · rw [if_neg e]
    by_cases e2 : i ≤ k
    · rw [if_pos e2, if_pos (by omega)]
    · rw [if_neg e2, if_neg (by omega)]
theorem mixA_zero (g h : Nat → Nat) (e : g 0 = h 0) (i : Nat) : mixA g h 0 i = h i := by
  unfold mixA
  by_cases e2 : i ≤ 0
  · rw [if_pos e2, show i = 0 by omega, e]
  · rw [if_neg e2]

theorem ColIs.set {w : World} {b n : Nat} {f g : Nat → Nat} (h : ColIs w b n f) (i x : Nat) (e : ∀ j, g j = if j = i then x else f j) : ColIs (w.setCell ⟨b, i, none⟩ (.int .i64 (x : Nat))) b n g := by
  refine (World.rowIs.set h i _).congr (fun j hj => ?_)
  rw [e j]
  by_cases hji : j = i
  · rw [if_pos hji, if_pos hji]
  · rw [if_neg hji, if_neg hji]

/-- On the way: column b holds g. -/
structure Fst (w : World) (b lb n m : Nat) (fl : Nat → Int) (g : Nat → Nat) (wx : World) : Prop where
  r : Bar w wx b lb
  c : ColIs wx b n g
  l : wx.rowIs lb 3 (m + 1) (fun j => .int .i64 (fl j))
theorem Fst.set {w wx : World} {b lb n m : Nat} {fl : Nat → Int} {g h : Nat → Nat} (H : Fst w b lb n m fl g wx) (hb : lb ≠ b) (i x : Nat) (e : ∀ j, h j = if j = i then x else g j) : Fst w b lb n m fl h (wx.setCell ⟨b, i, none⟩ (.int .i64 (x : Nat))) :=
  ⟨H.r.set1 i _, H.c.set i x e, H.l.setOther hb _⟩
theorem Fst.drewN {w wx : World} {b lb n m : Nat} {fl : Nat → Int} {g : Nat → Nat} (H : Fst w b lb n m fl g wx) (q : Nat) : Fst w b lb n m fl g (wx.drewN q) := ⟨H.r, H.c, H.l⟩
theorem Fst.drew {w wx : World} {b lb n m : Nat} {fl : Nat → Int} {g : Nat → Nat} (H : Fst w b lb n m fl g wx) : Fst w b lb n m fl g wx.drew := ⟨H.r, H.c, H.l⟩
theorem ColIs.cell {w : World} {b n : Nat} {g : Nat → Nat} (h : ColIs w b n g) (i : Nat) (hi : i ≤ n) : w.cell? ⟨b, i, none⟩ = some (.int .i64 (g i : Nat)) := World.rowIs.cell h (by omega)

set_option maxHeartbeats 4000000 in
set_option maxRecDepth 100000 in
theorem fill_any (s t : ByteArray) (cb kb lb p : Nat) (cB : Nat → Nat) (f : Nat → Nat) (w : World) (hs : s.size ≤ 2000) (ht : t.size ≤ 2000) (hp : p < t.size) (HC : Costs w s cb kb lb s.size t.size cB) (HA : CostsApart cb kb lb t.size cB) (H1 : ColIs w (cB p) s.size (lev s t p)) (H2 : ColIs w (cB (p + 1)) s.size f) :
    Calls Tryd.prog 40 #[.pointer (some ⟨cb, 0, none⟩), .string t, .int .i64 ((p : Int) + 1)] w fun e w' => e = .returned (.tuple #[]) ∧ Costs w' s cb kb lb s.size t.size cB ∧ ColIs w' (cB (p + 1)) s.size (lev s t (p + 1)) ∧ Bar w w' (cB (p + 1)) lb := by
  obtain ⟨c0, c1, c2, c3⟩ := HC.c.cells
  have k1 := HC.k.cell (i := p + 1) (by omega)
  have k2 := HC.k.cell (i := p) (by omega)
  obtain ⟨a1, a2, a3⟩ := HA.a
  obtain ⟨b1, b2, b3⟩ := HA.b (p + 1) (by omega)
  obtain ⟨d1, d2, d3⟩ := HA.b p (by omega)
  have hne := HA.n p hp
  have KC := Lib.hid HC
  have K1 := Lib.hid H1
  have K2 := Lib.hid H2
  obtain ⟨fl, hfl⟩ := HC.l
  have KL := Lib.hid hfl
  clear hfl
  obtain ⟨b, hb⟩ : ∃ b, b = cB (p + 1) := ⟨_, rfl⟩
  obtain ⟨a, ha⟩ : ∃ a, a = cB p := ⟨_, rfl⟩
  have i1 : (p : Int) < (t.size : Int) := by omega
  have i2 : (p : Int) + 1 < (t.size : Int) + 1 := by omega
  have i3 : (0 : Int) ≤ (p : Int) + 1 := by omega
  have i4 : ((p : Int) + 1).toNat = p + 1 := by omega
  have i5 : IntKind.i64.wrap (p : Int) = (p : Int) := IntWalk.i64_in _ (by omega)
  have i6 : (p : Int) < (t.size : Int) + 1 := by omega
  rw [← hb] at k1 b1 b2 b3 hne K2 ⊢
  rw [← ha] at k2 d1 d2 d3 hne K1
  have LA := Lib.hid (fun i => lev_le s t p i)
  have LB := Lib.hid (fun i => lev_le s t (p + 1) i)
  have LC := Lib.hid (fun i => levM_le s t p i)
  have HLT := Lib.hid (show ∀ i, levM s t p (lev s t p) (i + 1) = min (lev s t p i + (if byteAt s i = byteAt t p then 0 else 100)) (lev s t p (i + 1) + 100) from fun i => rfl)
  have HLC := Lib.hid (show ∀ i, lev s t (p + 1) (i + 1) = min (levM s t p (lev s t p) (i + 1)) (lev s t (p + 1) i + 100) from fun i => rfl)
  have HL0 := Lib.hid (show levM s t p (lev s t p) 0 = lev s t p 0 + 100 from rfl)
  have HL1 := Lib.hid (show levM s t p (lev s t p) 0 = lev s t (p + 1) 0 from rfl)
  generalize lev s t (p + 1) = l1 at *
  generalize levM s t p (lev s t p) = lm at *
  generalize lev s t p = l0 at *
  clear HC H1 H2 HA hb ha
  go_enter Tryd.func40, Tryd.ntmps40
  go_wp2_with fail
  go_quiet (fail)
  go_upto_region 1 with (fail)
  obtain ⟨w2, hw2⟩ : ∃ w2, w2 = w.drewN nq := ⟨_, rfl⟩
  have S2 := Lib.hid (show Fst w b lb s.size t.size fl f w2 from by rw [hw2]; exact ⟨(Bar.refl _ _ _).drewN _, K2.out, KL.out⟩)
  have HCB := Lib.hid (show ∀ wx, Bar w wx b lb → CostB wx s cb kb lb t.size from fun wx hx => KC.out.c.of_block (hx.2.2 cb KC.out.c.lt b1.symm a2))
  have HCA := Lib.hid (show ∀ wx, Bar w wx b lb → ColIs wx a s.size l0 from fun wx hx => hx.row K1.out hne.symm d3)
  rw [← hw2]
  clear hw2 c0 c1 c2 c3 k1 k2
  have r0 := (HCA.out w2 S2.out.r).cell 0 (by omega)
  have r1 := S2.out.c.cell 0 (by omega)
  have r2 := World.rowIs.frozen S2.out.c 0
  have v0 : IntKind.i64.wrap ((l0 0 : Nat) + 100 : Int) = ((lm 0 : Nat) : Int) := by
    rw [show ((l0 0 : Nat) + 100 : Int) = ((lm 0 : Nat) : Int) by rw [HL0.out]; omega]
    have := LC.out 0
    exact IntWalk.i64_in _ (by omega)
  have j0 : (0 : Int) < (s.size : Int) + 1 := by omega
  go_upto_region 2 with (fail)
  obtain ⟨w3, hw3⟩ : ∃ w3, w3 = w2.setCell ⟨b, 0, none⟩ (.int .i64 (lm 0 : Nat)) := ⟨_, rfl⟩
  have S3 := Lib.hid (show Fst w b lb s.size t.size fl (mixA lm f 0) w3 from by
    rw [hw3]
    exact S2.out.set b3.symm 0 (lm 0) (fun j => by
      unfold mixA
      by_cases e : j = 0
      · subst e; simp
      · rw [if_neg (by omega), if_neg e]))
  rw [← hw3]
  clear hw3 r0 r1 r2 v0
  have c0 := (HCB.out w3 S3.out.r).cells.1
  go_wp2_with fail
  clear c0
  go_loopw [48] (fun i wr => ∃ k : Nat, k ≤ s.size ∧ i = .int .i64 k ∧ Hid (Fst w b lb s.size t.size fl (mixA lm f k) wr)) (fun i _ => s.size - (intOf i).toNat)
  case atStart => exact ⟨0, Nat.zero_le _, rfl, S3⟩
  case round =>
    obtain ⟨k, hk, rfl, HR⟩ := hrel
    clear S3
    obtain ⟨wo, rfl⟩ : ∃ wo : World, wo = wr := ⟨_, rfl⟩
    by_cases hlt : k < s.size
    · have n1 : (k : Int) < (s.size : Int) := by omega
      have n2 : (k : Int) < (s.size : Int) + 1 := by omega
      have n3 : (k : Int) + 1 < (s.size : Int) + 1 := by omega
      have n4 : (0 : Int) ≤ (k : Int) + 1 := by omega
      have n5 : ((k : Int) + 1).toNat = k + 1 := by omega
      have n6 : IntKind.i64.wrap ((k : Int) + 1) = (k : Int) + 1 := IntWalk.i64_in _ (by omega)
      have c0 := (HCB.out wo HR.out.r).cells.1
      have r0 := (HCA.out wo HR.out.r).cell k hk
      have r1 := (HCA.out wo HR.out.r).cell (k + 1) (by omega)
      have r2 := HR.out.c.cell (k + 1) (by omega)
      have r3 := World.rowIs.frozen HR.out.c (k + 1)
      have hl := HLT.out k
      have b0 := LA.out k
      have b10 := LA.out (k + 1)
      have ek := byteAt_get s k hlt
      have ep := byteAt_get t p hp
      rw [← ek, ← ep] at hl
      have SET := Lib.hid (HR.out.set b3.symm (k + 1) (lm (k + 1)) (mixA_set lm f k))
      generalize lm (k + 1) = y at *
      generalize l0 k = x0 at *
      generalize l0 (k + 1) = x1 at *
      have v2 : IntKind.i64.wrap ((x1 : Int) + 100) = (x1 : Int) + 100 := IntWalk.i64_in _ (by omega)
      by_cases hbe : (s[k].toNat : Int) = (t[p].toNat : Int)
      · have hbe' : ((s[k].toNat : Int) != (t[p].toNat : Int)) = false := by simp [hbe]
        rw [if_pos hbe] at hl
        have hm : min (x0 : Int) ((x1 : Int) + 100) = (y : Int) := by omega
        clear hbe hl ek ep
        go_wp2_with fail
        go_roundw
        case rel => exact ⟨k + 1, by omega, by go_num, SET⟩
        case measure => simp [intOf]; omega
      · have hbe' : ((s[k].toNat : Int) != (t[p].toNat : Int)) = true := by simpa using hbe
        rw [if_neg hbe] at hl
        have v3 : IntKind.i64.wrap ((x0 : Int) + 100) = (x0 : Int) + 100 := IntWalk.i64_in _ (by omega)
        have hm : min ((x0 : Int) + 100) ((x1 : Int) + 100) = (y : Int) := by omega
        clear hbe hl ek ep
        go_wp2_with fail
        go_roundw
        case rel => exact ⟨k + 1, by omega, by go_num, SET⟩
        case measure => simp [intOf]; omega
    · obtain rfl : k = s.size := by omega
      have S4 := Lib.hid (show Fst w b lb s.size t.size fl lm wo from ⟨HR.out.r, World.rowIs.congr HR.out.c (fun i hi => by show Value.int .i64 ((mixA lm f s.size i : Nat) : Int) = _; unfold mixA; rw [if_pos (by omega)]), HR.out.l⟩)
      have c3 := (HCB.out wo S4.out.r).cells.2.2.2 t[p].toNat (UInt8.toNat_lt _)
      have c0 := (HCB.out wo S4.out.r).cells.1
      have r0 := S4.out.c.cell 0 (by omega)
      have u1 : (t[p].toNat : Int) < 256 := by have := UInt8.toNat_lt t[p]; omega
      clear HR
      go_wp2_with fail
      go_loopw [85] (fun i wx => i = .int .i64 0 ∧ wx = wo) (fun _ _ => 0)
      case atStart => exact ⟨rfl, rfl⟩
      case round =>
        obtain ⟨rfl, rfl⟩ := hrel
        obtain ⟨wo, rfl⟩ : ∃ wo : World, wo = wr := ⟨_, rfl⟩
        have S5 := Lib.hid (show Fst w b lb s.size t.size fl (mixA l1 lm 0) wo from ⟨S4.out.r, World.rowIs.congr S4.out.c (fun i hi => by show _ = Value.int .i64 ((mixA l1 lm 0 i : Nat) : Int); rw [mixA_zero l1 lm HL1.out.symm]), S4.out.l⟩)
        go_wp2_with fail
        clear S4 c3 c0 r0
        go_loopw [16, 142] (fun L i wx => ∃ k : Nat, k ≤ s.size ∧ i = .int .i64 k ∧ (∃ x : Int, L = .int .i64 x) ∧ Hid (Fst w b lb s.size t.size fl (mixA l1 lm k) wx)) (fun _ i _ => s.size - (intOf i).toNat)
        case atStart => exact ⟨0, Nat.zero_le _, rfl, ⟨_, rfl⟩, S5⟩
        case round =>
          obtain ⟨k, hk, rfl, ⟨x, rfl⟩, HR⟩ := hrel
          clear S5
          obtain ⟨wo, rfl⟩ : ∃ wo : World, wo = wr := ⟨_, rfl⟩
          by_cases hlt : k < s.size
          · have n1 : (k : Int) < (s.size : Int) := by omega
            have n2 : (k : Int) < (s.size : Int) + 1 := by omega
            have n3 : (k : Int) + 1 < (s.size : Int) + 1 := by omega
            have n4 : (0 : Int) ≤ (k : Int) + 1 := by omega
            have n5 : ((k : Int) + 1).toNat = k + 1 := by omega
            have n6 : IntKind.i64.wrap ((k : Int) + 1) = (k : Int) + 1 := IntWalk.i64_in _ (by omega)
            have r1 := HR.out.c.cell k hk
            have r2 := HR.out.c.cell (k + 1) (by omega)
            have r3 := World.rowIs.frozen HR.out.c (k + 1)
            have e1 : mixA l1 lm k k = l1 k := by unfold mixA; rw [if_pos (Nat.le_refl _)]
            have e2 : mixA l1 lm k (k + 1) = lm (k + 1) := by unfold mixA; rw [if_neg (by omega)]
            rw [e1] at r1
            rw [e2] at r2
            have hl := HLC.out k
            have bb := LB.out k
            have SET := Lib.hid ((HR.out.set b3.symm (k + 1) (l1 (k + 1)) (mixA_set l1 lm k)).drew)
            generalize l1 (k + 1) = y at *
            generalize lm (k + 1) = x1 at *
            generalize l1 k = x0 at *
            have v2 : IntKind.i64.wrap ((x0 : Int) + 100) = (x0 : Int) + 100 := IntWalk.i64_in _ (by omega)
            have hm : min (x1 : Int) ((x0 : Int) + 100) = (y : Int) := by omega
            clear e1 e2 hl
            go_upto_region 25 with (fail)
            go_region
            obtain ⟨w7, hw7⟩ : ∃ w7, w7 = (wo.setCell ⟨b, k + 1, none⟩ (.int .i64 (y : Nat))).drew := ⟨_, rfl⟩
            have r4 : w7.cell? ⟨b, k + 1, none⟩ = some (.int .i64 (y : Nat)) := by rw [hw7]; exact World.cell?_setCell_same _ _ _ r2
            rw [← hw7] at SET
            rw [← hw7]
            clear hw7 r1 r2 r3
            go_wp2_with fail
            go_roundw
            case rel => exact ⟨k + 1, by omega, by go_num, ⟨_, rfl⟩, SET⟩
            case measure => simp [intOf]; omega
          · obtain rfl : k = s.size := by omega
            have S6 := Lib.hid (show Fst w b lb s.size t.size fl l1 wo from ⟨HR.out.r, World.rowIs.congr HR.out.c (fun i hi => by show Value.int .i64 ((mixA l1 lm s.size i : Nat) : Int) = _; unfold mixA; rw [if_pos (by omega)]), HR.out.l⟩)
            clear HR
            have c2 := (HCB.out wo S6.out.r).cells.2.2.1
            have r1 : wo.cell? ⟨lb, p + 1, none⟩ = some (.int .i64 (fl (p + 1))) := S6.out.l.cell (by omega)
            have r2 := S6.out.l.frozen (p + 1)
            go_wp2_with fail
            go_end0
            refine ⟨rfl, ⟨(HCB.out wo S6.out.r).of_block (Below.heap_setCell _ _ _ _ a2), (S6.out.r.row KC.out.k b2.symm a3).setOther a3 _, ⟨fun j => if j = p + 1 then x else fl j, (S6.out.l.set (p + 1) (.int .i64 x)).congr (fun j hj => by by_cases e : j = p + 1 <;> simp [e])⟩⟩, World.rowIs.setOther S6.out.c b3 _, S6.out.r.set2 _ _⟩

end Go.Proofs.YtmoplmjfnjgcaaaDoor
namespace Go.Proofs.YtmoplmjfnjgcaaaDoor
open Go.RowKit
set_option linter.unusedSimpArgs false
set_option linter.unusedVariables false

theorem info_sl : (Tryd.prog.info? 82).map (fun i => (i.zero, i.size, i.bytes)) = some (some (.slice none 0 0), 1, 24) := by kernel_rfl

theorem zero_costs : Tryd.zeroCells86 = (#[.string ⟨#[]⟩, .slice none 0 0, .slice none 0 0] ++ Array.replicate 256 (.slice none 0 0)) ++ #[.int .i64 0] := by kernel_rfl

theorem costB_made (w : World) (s : ByteArray) (kb lb m : Nat) :
    CostB (w.alloc (.cells ((((Tryd.zeroCells86.setIfInBounds 0 (.string s)).setIfInBounds 1 (.slice (some ⟨kb, 0, none⟩) (m + 1) (m + 1))).setIfInBounds 2 (.slice (some ⟨lb, 0, none⟩) (m + 1) (m + 1))).setIfInBounds 259 (.int .i64 1)) 86)) s w.heap.size kb lb m := by
  refine ⟨_, heap_alloc_new _ _, ?_, ?_, ?_, fun x hx => ?_⟩
  · rw [zero_costs]; simp [Array.getElem?_setIfInBounds]
  · rw [zero_costs]; simp [Array.getElem?_setIfInBounds]
  · rw [zero_costs]; simp [Array.getElem?_setIfInBounds]
  · rw [Array.getElem?_setIfInBounds, if_neg (by omega), Array.getElem?_setIfInBounds, if_neg (by omega), Array.getElem?_setIfInBounds, if_neg (by omega), Array.getElem?_setIfInBounds, if_neg (by omega), zero_costs]
    rw [Array.getElem?_append_left (by simp; omega), Array.getElem?_append_right (by simp)]
    simp [hx]

/-- New costs whose columns are not made yet. -/
structure NewC (w : World) (s : ByteArray) (cb kb lb m : Nat) (wx : World) : Prop where
  c : CostB wx s cb kb lb m
  k : wx.rowIs kb 82 (m + 1) (fun _ => .slice none 0 0)
  l : wx.rowIs lb 3 (m + 1) (fun _ => .int .i64 0)
  a : cb ≠ kb ∧ cb ≠ lb ∧ kb ≠ lb
  n : w.heap.size ≤ cb ∧ w.heap.size ≤ kb ∧ w.heap.size ≤ lb
  b : Below w.heap.size w wx

/-- Behind k columns; the first four lie in blocks of their own from H on. -/
structure MadeC (w : World) (s : ByteArray) (cb kb lb m H k : Nat) (wx : World) : Prop where
  c : CostB wx s cb kb lb m
  kr : wx.rowIs kb 82 (m + 1) (fun j => if j < k then .slice (some ⟨H + j % 4, 0, none⟩) (s.size + 1) (s.size + 1) else .slice none 0 0)
  l : wx.rowIs lb 3 (m + 1) (fun _ => .int .i64 0)
  r : ∀ j, j < 4 → j < k → ColIs wx (H + j) s.size (fun _ => 0)
  z : wx.heap.size = H + min k 4
  b : Below w.heap.size w wx
  h : (cb < H ∧ kb < H ∧ lb < H) ∧ w.heap.size ≤ H
  n : w.heap.size ≤ kb ∧ w.heap.size ≤ lb

theorem MadeC.make {w wo : World} {s : ByteArray} {cb kb lb m H k : Nat} (h : MadeC w s cb kb lb m H k wo) (h4 : k < 4) (hk : k < m + 1) :
    MadeC w s cb kb lb m H (k + 1) (((wo.alloc (.cells (madeCells #[.int .i64 0] (s.size + 1)) 3)).setCell ⟨kb, k, none⟩ (.slice (some ⟨wo.heap.size, 0, none⟩) (s.size + 1) (s.size + 1))).drew) := by
  obtain ⟨⟨h1, h2, h3⟩, h5⟩ := h.h
  have hz := h.z
  obtain ⟨q1, q2⟩ : wo.heap.size = H + k ∧ k % 4 = k := by omega
  have bb : ∀ b, b < wo.heap.size → b ≠ kb → (((wo.alloc (.cells (madeCells #[.int .i64 0] (s.size + 1)) 3)).setCell ⟨kb, k, none⟩ (.slice (some ⟨wo.heap.size, 0, none⟩) (s.size + 1) (s.size + 1))).drew).heap[b]? = wo.heap[b]? := fun b hb hne =>
    (Below.heap_setCell _ _ _ _ hne).trans (Below.heap_alloc _ _ _ hb)
  refine ⟨h.c.of_block (bb cb h.c.lt ?_), ?_, h.l.of_block (bb lb h.l.lt ?_), fun j j1 j2 => ?_, ?_, ?_, h.h, h.n⟩
  · intro e
    subst e
    obtain ⟨A, a1, _⟩ := h.c
    obtain ⟨C, b1, _⟩ := h.kr
    rw [a1] at b1
    simp at b1
  · refine ((h.kr.alloc _).set k _).congr (fun j hj => ?_)
    by_cases e : j = k
    · subst e
      rw [if_pos rfl, if_pos (by omega), q1, q2]
    · rw [if_neg e]
      by_cases e2 : j < k
      · rw [if_pos e2, if_pos (by omega)]
      · rw [if_neg e2, if_neg (by omega)]
  · intro e
    subst e
    obtain ⟨A, a1, _⟩ := h.l
    obtain ⟨C, b1, _⟩ := h.kr
    rw [a1] at b1
    simp at b1
  · by_cases e : j = k
    · subst e
      have := World.rowIs_made wo (.int .i64 0) (s.size + 1) 3
      rw [q1] at this
      exact this.setOther (by show H + j ≠ kb; omega) _
    · exact (h.r j j1 (by omega)).of_block (bb (H + j) (by rw [hz]; omega) (by omega))
  · simp only [World.drew, World.setCell] at *
    simp
    omega
  · exact ((below_alloc h.b _).setCell (p := ⟨kb, k, none⟩) (show w.heap.size ≤ kb from h.n.1) _).drew

theorem MadeC.copy {w wo : World} {s : ByteArray} {cb kb lb m H k kp : Nat} (h : MadeC w s cb kb lb m H k wo) (e4 : k = kp + 4) (hk : k < m + 1) :
    MadeC w s cb kb lb m H (k + 1) ((wo.setCell ⟨kb, k, none⟩ (.slice (some ⟨H + kp % 4, 0, none⟩) (s.size + 1) (s.size + 1))).drew) := by
  obtain ⟨⟨h1, h2, h3⟩, h5⟩ := h.h
  have hz := h.z
  have bb : ∀ b, b ≠ kb → ((wo.setCell ⟨kb, k, none⟩ (.slice (some ⟨H + kp % 4, 0, none⟩) (s.size + 1) (s.size + 1))).drew).heap[b]? = wo.heap[b]? := fun b hne => Below.heap_setCell _ _ _ _ hne
  refine ⟨h.c.of_block (bb cb ?_), ?_, h.l.of_block (bb lb ?_), fun j j1 j2 => (h.r j j1 (by omega)).of_block (bb (H + j) (by omega)), ?_, ?_, h.h, h.n⟩
  · intro e
    subst e
    obtain ⟨A, a1, _⟩ := h.c
    obtain ⟨C, b1, _⟩ := h.kr
    rw [a1] at b1
    simp at b1
  · refine (h.kr.set k _).congr (fun j hj => ?_)
    by_cases e : j = k
    · subst e
      rw [if_pos rfl, if_pos (by omega), show kp % 4 = j % 4 by omega]
    · rw [if_neg e]
      by_cases e2 : j < k
      · rw [if_pos e2, if_pos (by omega)]
      · rw [if_neg e2, if_neg (by omega)]
  · intro e
    subst e
    obtain ⟨A, a1, _⟩ := h.l
    obtain ⟨C, b1, _⟩ := h.kr
    rw [a1] at b1
    simp at b1
  · simp only [World.drew, World.setCell] at *
    simp
    omega
  · exact (h.b.setCell (p := ⟨kb, k, none⟩) (show w.heap.size ≤ kb from h.n.1) _).drew

set_option maxHeartbeats 4000000 in
set_option maxRecDepth 100000 in
theorem newCosts_any (s : ByteArray) (m : Nat) (w : World) (hs : s.size ≤ 2000) (hm : m ≤ 2000) :
    Calls Tryd.prog 39 #[.string s, .slice none 0 0, .int .i64 m, .int .i64 4] w fun e w' => ∃ cb kb lb cB, e = .returned (.pointer (some ⟨cb, 0, none⟩)) ∧ Costs w' s cb kb lb s.size m cB ∧ CostsApart cb kb lb m cB ∧ ColIs w' (cB 0) s.size (fun i => i * 100) ∧ (∀ j, j ≤ m → ∃ f, ColIs w' (cB j) s.size f) ∧ Below w.heap.size w w' ∧ w.heap.size ≤ lb ∧ ∀ j, w.heap.size ≤ cB j := by
  have mk1 := run_make_row' (P := Tryd.prog) 81 82 (.slice none 0 0) 24 Tryd.underlying81 info_sl rfl .i64 .i64 (m + 1) (by omega) (by omega)
  have mk2 := run_make_row' (P := Tryd.prog) 82 3 (.int .i64 0) 8 Tryd.underlying82 info_int rfl .i64 .i64 (m + 1) (by omega) (by omega)
  have mk3 := run_make_row' (P := Tryd.prog) 82 3 (.int .i64 0) 8 Tryd.underlying82 info_int rfl .i64 .i64 (s.size + 1) (by omega) (by omega)
  rw [show ((m + 1 : Nat) : Int) = (m : Int) + 1 by omega] at mk1 mk2
  rw [show ((s.size + 1 : Nat) : Int) = (s.size : Int) + 1 by omega] at mk3
  have v1 : IntKind.i64.wrap ((m : Int) + 1) = (m : Int) + 1 := IntWalk.i64_in _ (by omega)
  have v2 : IntKind.i64.wrap ((s.size : Int) + 1) = (s.size : Int) + 1 := IntWalk.i64_in _ (by omega)
  have MK3 := Lib.hid mk3
  clear mk3
  go_enter Tryd.func39, Tryd.ntmps39
  go_upto_region 1 with (fail)
  go_cut [9] from 14 to 22 (fun v9 wx => ∃ cb kb lb, v9 = .pointer (some ⟨cb, 0, none⟩) ∧ Hid (NewC w s cb kb lb m wx))
  case first =>
    go_region
    · go_wp2_with fail
      go_meet
      case rel =>
        refine ⟨_, w.heap.size, w.heap.size + 1, rfl, Lib.hid ⟨?_, ?_, ?_, ?_, ?_, ?_⟩⟩
        · have := costB_made ((w.alloc (.cells (madeCells #[.slice none 0 0] (m + 1)) 82)).alloc (.cells (madeCells #[.int .i64 0] (m + 1)) 3)) s w.heap.size (w.heap.size + 1) m
          rw [show ((w.alloc (.cells (madeCells #[.slice none 0 0] (m + 1)) 82)).alloc (.cells (madeCells #[.int .i64 0] (m + 1)) 3)).heap.size = w.heap.size + 1 + 1 by simp] at this
          exact this
        · exact ((World.rowIs_made w (.slice none 0 0) (m + 1) 82).alloc _).alloc _
        · have := (World.rowIs_made (w.alloc (.cells (madeCells #[.slice none 0 0] (m + 1)) 82)) (.int .i64 0) (m + 1) 3).alloc (.cells ((((Tryd.zeroCells86.setIfInBounds 0 (.string s)).setIfInBounds 1 (.slice (some ⟨w.heap.size, 0, none⟩) (m + 1) (m + 1))).setIfInBounds 2 (.slice (some ⟨w.heap.size + 1, 0, none⟩) (m + 1) (m + 1))).setIfInBounds 259 (.int .i64 1)) 86)
          rw [show (w.alloc (.cells (madeCells #[.slice none 0 0] (m + 1)) 82)).heap.size = w.heap.size + 1 by simp] at this
          exact this
        · omega
        · omega
        · exact (below_alloc (below_alloc (new_below _ _) _) _).drew
    · go_wp2_with fail
      go_meet
      case rel =>
        refine ⟨_, w.heap.size + 1, w.heap.size, rfl, Lib.hid ⟨?_, ?_, ?_, ?_, ?_, ?_⟩⟩
        · have := costB_made ((w.alloc (.cells (madeCells #[.int .i64 0] (m + 1)) 3)).alloc (.cells (madeCells #[.slice none 0 0] (m + 1)) 82)) s (w.heap.size + 1) w.heap.size m
          rw [show ((w.alloc (.cells (madeCells #[.int .i64 0] (m + 1)) 3)).alloc (.cells (madeCells #[.slice none 0 0] (m + 1)) 82)).heap.size = w.heap.size + 1 + 1 by simp] at this
          exact this
        · have := (World.rowIs_made (w.alloc (.cells (madeCells #[.int .i64 0] (m + 1)) 3)) (.slice none 0 0) (m + 1) 82).alloc (.cells ((((Tryd.zeroCells86.setIfInBounds 0 (.string s)).setIfInBounds 1 (.slice (some ⟨w.heap.size + 1, 0, none⟩) (m + 1) (m + 1))).setIfInBounds 2 (.slice (some ⟨w.heap.size, 0, none⟩) (m + 1) (m + 1))).setIfInBounds 259 (.int .i64 1)) 86)
          rw [show (w.alloc (.cells (madeCells #[.int .i64 0] (m + 1)) 3)).heap.size = w.heap.size + 1 by simp] at this
          exact this
        · exact ((World.rowIs_made w (.int .i64 0) (m + 1) 3).alloc _).alloc _
        · omega
        · omega
        · exact (below_alloc (below_alloc (new_below _ _) _) _).drew
  case rest =>
    obtain ⟨w2, rfl⟩ : ∃ w2 : World, w2 = wc := ⟨_, rfl⟩
    obtain ⟨cb, kb, lb, rfl, HN⟩ := hcut
    clear mk1 mk2
    have c1 := HN.out.c.cells.2.1
    have l1 := HN.out.c.lt
    have l2 := HN.out.k.lt
    have l3 := HN.out.l.lt
    have M0 := Lib.hid (show MadeC w s cb kb lb m w2.heap.size 0 w2 from ⟨HN.out.c, HN.out.k.congr (fun j hj => by simp), HN.out.l, fun j _ hj => by omega, by simp, HN.out.b, ⟨⟨l1, l2, l3⟩, HN.out.b.size⟩, HN.out.n.2⟩)
    generalize w2.heap.size = H at M0
    clear l1 l2 l3
    go_wp2_with fail
    clear c1
    go_loopw [28] (fun i wr => ∃ k : Nat, k ≤ m + 1 ∧ i = .int .i64 k ∧ Hid (MadeC w s cb kb lb m H k wr)) (fun i _ => m + 1 - (intOf i).toNat)
    case atStart => exact ⟨0, Nat.zero_le _, rfl, M0⟩
    case round =>
      obtain ⟨k, hk, rfl, HR⟩ := hrel
      clear M0
      obtain ⟨wo, rfl⟩ : ∃ wo : World, wo = wr := ⟨_, rfl⟩
      obtain ⟨⟨h1, h2, h3⟩, h4⟩ := HR.out.h
      by_cases hlt : k < m + 1
      · have n1 : (k : Int) < (m : Int) + 1 := by omega
        have c1 := HR.out.c.cells.2.1
        have r1 := HR.out.kr.cell hlt
        rw [if_neg (Nat.lt_irrefl k)] at r1
        have r2 := HR.out.kr.frozen k
        by_cases hk4 : k < 4
        · have n2 : (k : Int) < 4 := by omega
          have mk3 := MK3.out
          have c1' : (wo.alloc (.cells (madeCells #[.int .i64 0] (s.size + 1)) 3)).cell? ⟨cb, 1, none⟩ = some (.slice (some ⟨kb, 0, none⟩) (m + 1) (m + 1)) := (World.cell?_of_block (a := ⟨cb, 1, none⟩) (Below.heap_alloc _ _ _ HR.out.c.lt)).trans c1
          have r1' : (wo.alloc (.cells (madeCells #[.int .i64 0] (s.size + 1)) 3)).cell? ⟨kb, k, none⟩ = some (.slice none 0 0) := (World.cell?_of_block (a := ⟨kb, k, none⟩) (Below.heap_alloc _ _ _ HR.out.kr.lt)).trans r1
          have r2' : (wo.alloc (.cells (madeCells #[.int .i64 0] (s.size + 1)) 3)).frozen? ⟨kb, k, none⟩ = false := (World.frozen?_of_block (a := ⟨kb, k, none⟩) (Below.heap_alloc _ _ _ HR.out.kr.lt)).trans r2
          go_upto_region 6 with (fail)
          go_region
          have S := Lib.hid (HR.out.make hk4 hlt)
          go_wp2_with fail
          go_roundw
          case rel => exact ⟨k + 1, by omega, by go_num, S⟩
          case measure => simp [intOf]; omega
        · have n2 : ¬ (k : Int) < 4 := by omega
          obtain ⟨kp, hkp⟩ : ∃ kp, k = kp + 4 := ⟨k - 4, by omega⟩
          have r3 := HR.out.kr.cell (i := kp) (by omega)
          rw [if_pos (by omega)] at r3
          have n3 : IntKind.i64.wrap ((k : Int) - 4) = (kp : Int) := by rw [show (k : Int) - 4 = (kp : Int) by omega]; exact IntWalk.i64_in _ (by omega)
          have n4 : (kp : Int) < (m : Int) + 1 := by omega
          have HKP := Lib.hid hkp
          clear hkp
          go_upto_region 7 with (fail)
          go_region
          have S := Lib.hid (HR.out.copy HKP.out hlt)
          go_wp2_with fail
          go_roundw
          case rel => exact ⟨k + 1, by omega, by go_num, S⟩
          case measure => simp [intOf]; omega
      · obtain rfl : k = m + 1 := by omega
        have c1 := HR.out.c.cells.2.1
        have r0 : wo.cell? ⟨kb, 0, none⟩ = some (.slice (some ⟨H, 0, none⟩) (s.size + 1) (s.size + 1)) := by
          have := HR.out.kr.cell (i := 0) (by omega)
          simpa using this
        have C0 := Lib.hid (show Bar wo wo H H ∧ ColIs wo H s.size (fun i => if i < 0 then i * 100 else 0) from ⟨Bar.refl _ _ _, by
          have := HR.out.r 0 (by omega) (by omega)
          exact World.rowIs.congr this (fun i hi => by simp)⟩)
        have hbk : cb ≠ kb := by
          intro e
          subst e
          obtain ⟨A, a1, _⟩ := HR.out.c
          obtain ⟨C, b1, _⟩ := HR.out.kr
          rw [a1] at b1
          simp at b1
        have hbl : cb ≠ lb := by
          intro e
          subst e
          obtain ⟨A, a1, _⟩ := HR.out.c
          obtain ⟨C, b1, _⟩ := HR.out.l
          rw [a1] at b1
          simp at b1
        have hkl : kb ≠ lb := by
          intro e
          subst e
          obtain ⟨A, a1, _⟩ := HR.out.kr
          obtain ⟨C, b1, _⟩ := HR.out.l
          rw [a1] at b1
          simp at b1
        go_wp2_with fail
        clear c1 r0
        go_loopw [67] (fun i wx => ∃ q : Nat, q ≤ s.size + 1 ∧ i = .int .i64 q ∧ Hid (Bar wo wx H H ∧ ColIs wx H s.size (fun i => if i < q then i * 100 else 0))) (fun i _ => s.size + 1 - (intOf i).toNat)
        case atStart => exact ⟨0, Nat.zero_le _, rfl, C0⟩
        case round =>
          obtain ⟨q, hq, rfl, HQ⟩ := hrel
          clear C0
          obtain ⟨wq, rfl⟩ : ∃ wq : World, wq = wr := ⟨_, rfl⟩
          have HCB := Lib.hid (show CostB wq s cb kb lb m from HR.out.c.of_block (HQ.out.1.2.2 cb HR.out.c.lt (by omega) (by omega)))
          have HKR := Lib.hid (HQ.out.1.row HR.out.kr (by omega) (by omega))
          by_cases hql : q < s.size + 1
          · have n1 : (q : Int) < (s.size : Int) + 1 := by omega
            have n0 : (0 : Int) < (m : Int) + 1 := by omega
            have c1 := HCB.out.cells.2.1
            have r0 : wq.cell? ⟨kb, 0, none⟩ = some (.slice (some ⟨H, 0, none⟩) (s.size + 1) (s.size + 1)) := by
              have := HKR.out.cell (i := 0) (by omega)
              simpa using this
            have r1 := HQ.out.2.cell q (by omega)
            have r2 := World.rowIs.frozen HQ.out.2 q
            have v3 : IntKind.i64.wrap ((q : Int) * 100) = ((q * 100 : Nat) : Int) := by rw [show (q : Int) * 100 = ((q * 100 : Nat) : Int) by omega]; exact IntWalk.i64_in _ (by omega)
            have S := Lib.hid (show Bar wo (wq.setCell ⟨H, q, none⟩ (.int .i64 ((q * 100 : Nat) : Int))) H H ∧ ColIs (wq.setCell ⟨H, q, none⟩ (.int .i64 ((q * 100 : Nat) : Int))) H s.size (fun i => if i < q + 1 then i * 100 else 0) from
              ⟨HQ.out.1.set1 _ _, HQ.out.2.set q (q * 100) (fun j => by
                by_cases e : j = q
                · subst e; simp
                · rw [if_neg e]
                  by_cases e2 : j < q
                  · rw [if_pos e2, if_pos (by omega)]
                  · rw [if_neg e2, if_neg (by omega)])⟩)
            go_wp2_with fail
            go_roundw
            case rel => exact ⟨q + 1, by omega, by go_num, S⟩
            case measure => simp [intOf]; omega
          · obtain rfl : q = s.size + 1 := by omega
            go_wp2_with fail
            go_loopw [83] (fun i wx => i = .int .i64 0 ∧ wx = wq) (fun _ _ => 0)
            case atStart => exact ⟨rfl, rfl⟩
            case round =>
              obtain ⟨rfl, rfl⟩ := hrel
              go_wp2_with fail
              go_ret
              refine ⟨cb, kb, lb, fun j => H + j % 4, rfl, ⟨HCB.out, HKR.out.congr (fun j hj => by rw [if_pos hj]), ⟨fun _ => 0, HQ.out.1.row HR.out.l (by omega) (by omega)⟩⟩, ⟨⟨hbk, hbl, hkl⟩, fun j hj => ⟨by omega, by omega, by omega⟩, fun j hj => by show H + (j + 1) % 4 ≠ H + j % 4; omega⟩, ?_, ?_, HQ.out.1.below HR.out.b h4 h4, HR.out.n.2, fun j => by show w.heap.size ≤ H + j % 4; omega⟩
              · exact World.rowIs.congr HQ.out.2 (fun i hi => by simp only [if_pos hi])
              · intro j hj
                have hm1 : j % 4 < 4 := Nat.mod_lt _ (by decide)
                have hm2 : j % 4 ≤ j := Nat.mod_le _ _
                by_cases e : j % 4 = 0
                · have hr := HQ.out.2
                  rw [show H = H + j % 4 by omega] at hr
                  exact ⟨_, hr⟩
                · have hr := HR.out.r (j % 4) hm1 (by omega)
                  have hr2 := HQ.out.1.row hr (by omega) (by omega)
                  exact ⟨_, hr2⟩

end Go.Proofs.YtmoplmjfnjgcaaaDoor
