/-
  What tokens_holds leans on: contracts of the functions that it calls.
-/
import Derived.Test.YtmoplmjfnjgcaaaDoorRows
import Derived.WalkKit
import Derived.WalkSpells
import Derived.WalkLawsBesides
import Derived.Lib.Hide
import Derived.Deep.RegionHeld3
import Derived.Shelf.Abstract
import Derived.Lib.TrimByte
import Derived.Shelf.Strings.Trim
import Derived.Test.YtmoplmjfnjgcaaaDoorProg
import Derived.Lib.MinMax
import Derived.Deep.QuietTactic
import Derived.BigQuiet
import Derived.Deep.CutRange
import Derived.Deep.DeepCutAuto
import Derived.Laws.EntriesVeiled
import Derived.StillTailTactics
import Derived.Deep.OwnRows
import Derived.Deep.CutBlock
import Derived.ProofKit
import Derived.OpenShut
import Derived.ShutString
import Derived.ChangeOld
import Derived.Lib.SmallJoins
import Derived.Deep.Grids
import Derived.Test.YtmoplmjfnjgcaaaDoorCTokens1
namespace Go.Proofs.YtmoplmjfnjgcaaaDoor
open Go.RowKit
set_option linter.unusedSimpArgs false
set_option linter.unusedVariables false

def wrdB (s : ByteArray) (a e : Nat) : Bool := decide (a < e ∧ lstN s e - a ≤ 40)

theorem letB_of (c : Int) (h : inwB c = true) (h39 : c ≠ 39) : letB c = true := by
  unfold inwB at h
  simpa [h39] using h

/-- What is asked of a part without apostrophes at its ends. -/
theorem isWord_sub (s : ByteArray) (a e : Nat) (w : World) (ha : a ≤ e) (he : e ≤ s.size) (hs : s.size ≤ 9223372036854775807) (hin : ∀ j, a ≤ j → j < e → inwB (byteAt s j) = true) (h39 : a < e → byteAt s a ≠ 39) :
    Calls Tryd.prog 13 #[.string (s.extract a (wrdEnd s a e))] w fun r w' => r = .returned (.bool (wrdB s a e)) ∧ w = w' := by
  obtain ⟨l1, l2, l3⟩ := lstN_spec s e
  by_cases h : a < e
  · have hl := lstN_above s e a h (h39 h)
    have hz : (s.extract a (lstN s e)).size = lstN s e - a := size_sub s a _ (by omega)
    by_cases h4 : lstN s e - a ≤ 40
    · have hb : wrdB s a e = true := decide_eq_true ⟨h, h4⟩
      rw [hb]
      unfold wrdEnd
      rw [if_pos h]
      refine isWord_yes _ w (by rw [hz]; omega) ?_ ?_ ?_
      · rw [byteAt_sub s a _ 0 (by omega) (by omega)]
        exact letB_of _ (hin _ (by omega) (by omega)) (h39 h)
      · rw [hz, byteAt_sub s a _ _ (by omega) (by omega), show a + (lstN s e - a - 1) = lstN s e - 1 by omega]
        exact letB_of _ (hin _ (by omega) (by omega)) (l3 (by omega))
      · intro j _ hj
        rw [hz] at hj
        rw [byteAt_sub s a _ _ (by omega) hj]
        exact hin _ (by omega) (by omega)
    · have hb : wrdB s a e = false := decide_eq_false (fun k => h4 k.2)
      rw [hb]
      unfold wrdEnd
      rw [if_pos h]
      exact isWord_no _ w (by rw [hz]; omega) (by rw [hz]; omega)
  · have hb : wrdB s a e = false := decide_eq_false (fun k => h k.1)
    rw [hb]
    unfold wrdEnd
    rw [if_neg h]
    have hz : (s.extract a e).size = e - a := size_sub s a _ he
    exact isWord_no _ w (by rw [hz]; omega) (by rw [hz]; omega)

theorem wrdEnd_ok (s : ByteArray) (a e : Nat) (ha : a ≤ e) (h39 : a < e → byteAt s a ≠ 39) : a ≤ wrdEnd s a e ∧ wrdEnd s a e ≤ e := by
  obtain ⟨l1, l2, l3⟩ := lstN_spec s e
  unfold wrdEnd
  by_cases h : a < e
  · have := lstN_above s e a h (h39 h)
    rw [if_pos h]; omega
  · rw [if_neg h]; omega

set_option maxHeartbeats 2000000 in
set_option maxRecDepth 100000 in
theorem split_any (s : ByteArray) (w : World) (hs : s.size ≤ 1048576) :
    Calls Tryd.prog 6 #[.string s] w fun r w' => ∃ v, r = .returned v ∧ TokRow w' w.heap.size s (tkAll s) v ∧ Below w.heap.size w w' := by
  obtain ⟨i0, hi, hz0, hz1, hz2⟩ := info_parts info_token
  have T0 := Lib.hid (show TokRow w w.heap.size s (tkS s 0).2 (.slice none 0 0) ∧ (0 ≤ s.size → runBeg s 0 = 0) ∧ Below w.heap.size w w from ⟨TokRow.nil _ _ _, fun _ => rfl, Below.refl _ _⟩)
  have D0 := Lib.hid (show (tkS s 0).1 = 0 from rfl)
  go_enter Tryd.func6, Tryd.ntmps6
  go_wp2_with fail
  go_loopw [3, 4, 5] (fun v3 v4 i wr => ∃ k : Nat, k ≤ s.size + 1 ∧ i = .int .i64 k ∧ v4 = .int .i64 ((tkS s (min k s.size)).1 : Nat) ∧ Hid (TokRow wr w.heap.size s (tkS s (min k s.size)).2 v3 ∧ (k ≤ s.size → runBeg s k = k) ∧ Below w.heap.size w wr)) (fun _ _ i _ => s.size + 1 - (intOf i).toNat)
  case atStart => exact ⟨0, by omega, rfl, by rw [show min 0 s.size = 0 by omega, D0.out]; rfl, by rw [show min 0 s.size = 0 by omega]; exact T0⟩
  case round =>
    obtain ⟨k, hk, rfl, rfl, HR⟩ := hrel
    clear T0
    obtain ⟨wo, rfl⟩ : ∃ wo : World, wo = wr := ⟨_, rfl⟩
    by_cases hlt : k < s.size
    · rw [show min k s.size = k by omega] at HR ⊢
      have hb := HR.out.2.1 (by omega)
      obtain ⟨t1, t2⟩ := tkS_at s k hb
      obtain ⟨e1, e2, e3, e4⟩ := endOf_spec s k (by omega)
      have e5 := endOf_in s k
      obtain ⟨f1, f2, f3, f4⟩ := fstN_spec s (endOf s k) (endOf s k - k) (by omega)
      have hnx := tkS_next s k (endOf s k) hb e3 e1 e4
      have hok := hndT_ok s (tkS s k) k (endOf s k) e1 t1 t2
      have C1 := Lib.hid (fun w => wordAt_any s k w (by omega) (by omega))
      obtain ⟨b1, b2⟩ := wrdEnd_ok s _ _ f2 f4
      have C2 := Lib.hid (fun w => isWord_sub s _ _ w f2 e2 (by omega) (fun j h1 h2 => e3 j (by omega) h2) f4)
      have C3 := Lib.hid (fun w => runEnd_any s (wrdEnd s (fstN s (endOf s k) (endOf s k - k)) (endOf s k)) w (by omega) (by omega))
      rw [e5 _ (by omega) (by omega) b2] at C3
      have HN := Lib.hid hnx
      have HH := Lib.hid (show hndT s (tkS s k) k (endOf s k) = if wrdB s (fstN s (endOf s k) (endOf s k - k)) (endOf s k) = true then (wrdEnd s (fstN s (endOf s k) (endOf s k - k)) (endOf s k), (tkS s k).2 ++ gapT (tkS s k).1 (fstN s (endOf s k) (endOf s k - k)) ++ [(fstN s (endOf s k) (endOf s k - k), wrdEnd s (fstN s (endOf s k) (endOf s k - k)) (endOf s k), true)]) else tkS s k by
        unfold hndT wrdB wrdEnd
        by_cases h : fstN s (endOf s k) (endOf s k - k) < endOf s k ∧ lstN s (endOf s k) - fstN s (endOf s k) (endOf s k - k) ≤ 40
        · rw [if_pos h, if_pos (decide_eq_true h), if_pos h.1]
        · rw [if_neg h, if_neg (by simpa using h)])
      have HSK := Lib.hid (tkS_skip s (endOf s k) e4)
      have HT := Lib.hid HR.out.1
      have HBL := Lib.hid HR.out.2.2
      have TLN := Lib.hid (show (tkS s k).2.length ≤ s.size by have := chn_len _ _ _ t2; omega)
      clear HR hb e3 e4 e5 f3 f4 hnx hok t2
      generalize fstN s (endOf s k) (endOf s k - k) = a at *
      generalize endOf s k = e at *
      generalize wrdEnd s a e = b at *
      generalize wrdB s a e = bw at *
      obtain ⟨dT, hdT⟩ : ∃ dT, dT = tkS s k := ⟨_, rfl⟩
      rw [← hdT] at HT TLN t1 HH HN ⊢
      obtain ⟨d, T⟩ := dT
      simp only at HT TLN t1 HH ⊢
      clear hdT
      go_upto_if 24 with (first | (go_at_call 12; (with_reducible refine (C1.out _).mono ?_); rintro e w' ⟨rfl, rfl⟩) | (go_at_call 13; (with_reducible refine (C2.out _).mono ?_); rintro e w' ⟨rfl, rfl⟩))
      go_cut [3, 4] from 24 to 44 (fun v3 v4 wx => ∃ d' T', v4 = .int .i64 (d' : Nat) ∧ Hid (hndT s (d, T) k e = (d', T') ∧ TokRow wx w.heap.size s T' v3 ∧ Below w.heap.size w wx))
      case first =>
        cases bw
        · go_wp2_with fail
          go_meet
          case rel => exact ⟨d, T, rfl, Lib.hid ⟨by rw [HH.out]; rfl, HT.out, HBL.out⟩⟩
        · by_cases hg : d < a
          · have i2 : (d : Int) < (a : Int) := by omega
            have HQ := Lib.hid (show hndT s (d, T) k e = (b, T ++ [(d, a, false)] ++ [(a, b, true)]) by rw [HH.out, if_pos rfl]; unfold gapT; rw [if_pos hg])
            go_wp2_with (at_builtin; refine wpList_append_own _ rfl _ _ 23 rfl w.heap.size 26 i0 (.agg #[.string ⟨#[]⟩, .bool false]) 2 24 Tryd.underlying23 hi hz0 hz1 hz2 rfl (by decide) _ _ _ rfl (World.ownsRow.alloc HT.out _) ⟨wo.heap.size, 0, none⟩ 1 1 [.string (s.extract d a), .bool false] rfl rfl (cells_two_new _ _ _ _) ?q1x2 ?q1x3 ?q1x4 ?q1x5 ?_)
            case q1x2 => first | exact ⟨rfl, rfl⟩ | (intro u hu; simp at hu; rcases hu with rfl | rfl <;> rfl)
            case q1x3 => have := TLN.out; unfold maxLen; simp <;> omega
            case q1x4 => have := TLN.out; simp <;> omega
            case q1x5 => have := HBL.out.size; simp; omega
            intro v' w5 hown hgr _
            have T5 := Lib.hid (show TokRow w5 w.heap.size s (T ++ [(d, a, false)]) v' by unfold TokRow; rw [← flatT_snoc, List.length_append (bs := [_]), List.length_singleton]; exact hown)
            have B5 := Lib.hid ((below_alloc HBL.out (.cells #[.string (s.extract d a), .bool false] 26)).grown hgr (by have := HBL.out.size; simp; omega) (fun j hj => (World.ownsRow.lt HT.out j hj).1))
            clear hown hgr
            go_wp2_with (at_builtin; refine wpList_append_own _ rfl _ _ 23 rfl w.heap.size 26 i0 (.agg #[.string ⟨#[]⟩, .bool false]) 2 24 Tryd.underlying23 hi hz0 hz1 hz2 rfl (by decide) _ _ _ rfl (World.ownsRow.alloc T5.out _) ⟨w5.heap.size, 0, none⟩ 1 1 [.string (s.extract a b), .bool true] rfl rfl (cells_two_new _ _ _ _) ?q2x2 ?q2x3 ?q2x4 ?q2x5 ?_)
            case q2x2 => first | exact ⟨rfl, rfl⟩ | (intro u hu; simp at hu; rcases hu with rfl | rfl <;> rfl)
            case q2x3 => have := TLN.out; unfold maxLen; simp <;> omega
            case q2x4 => have := TLN.out; simp <;> omega
            case q2x5 => have := B5.out.size; simp; omega
            intro v' w6 hown hgr _
            have T6 := Lib.hid (show TokRow w6 w.heap.size s (T ++ [(d, a, false)] ++ [(a, b, true)]) v' by unfold TokRow; rw [← flatT_snoc, List.length_append (bs := [_]), List.length_singleton]; rw [List.length_append, List.length_singleton]; exact hown)
            have B6 := Lib.hid ((below_alloc B5.out (.cells #[.string (s.extract a b), .bool true] 26)).grown hgr (by have := B5.out.size; simp; omega) (fun j hj => (World.ownsRow.lt T5.out j hj).1))
            clear hown hgr
            go_wp2_with fail
            go_meet
            case rel => exact ⟨b, _, rfl, Lib.hid ⟨HQ.out, T6.out, B6.out⟩⟩
          · have i2 : ¬ (d : Int) < (a : Int) := by omega
            have HQ := Lib.hid (show hndT s (d, T) k e = (b, T ++ [(a, b, true)]) by rw [HH.out, if_pos rfl]; unfold gapT; rw [if_neg hg, List.append_nil])
            go_wp2_with (at_builtin; refine wpList_append_own _ rfl _ _ 23 rfl w.heap.size 26 i0 (.agg #[.string ⟨#[]⟩, .bool false]) 2 24 Tryd.underlying23 hi hz0 hz1 hz2 rfl (by decide) _ _ _ rfl (World.ownsRow.alloc HT.out _) ⟨wo.heap.size, 0, none⟩ 1 1 [.string (s.extract a b), .bool true] rfl rfl (cells_two_new _ _ _ _) ?q3x2 ?q3x3 ?q3x4 ?q3x5 ?_)
            case q3x2 => first | exact ⟨rfl, rfl⟩ | (intro u hu; simp at hu; rcases hu with rfl | rfl <;> rfl)
            case q3x3 => have := TLN.out; unfold maxLen; simp <;> omega
            case q3x4 => have := TLN.out; simp <;> omega
            case q3x5 => have := HBL.out.size; simp; omega
            intro v' w5 hown hgr _
            have T5 := Lib.hid (show TokRow w5 w.heap.size s (T ++ [(a, b, true)]) v' by unfold TokRow; rw [← flatT_snoc, List.length_append (bs := [_]), List.length_singleton]; exact hown)
            have B5 := Lib.hid ((below_alloc HBL.out (.cells #[.string (s.extract a b), .bool true] 26)).grown hgr (by have := HBL.out.size; simp; omega) (fun j hj => (World.ownsRow.lt HT.out j hj).1))
            clear hown hgr
            go_wp2_with fail
            go_meet
            case rel => exact ⟨b, _, rfl, Lib.hid ⟨HQ.out, T5.out, B5.out⟩⟩
      case rest =>
        obtain ⟨d', T', rfl, HC⟩ := hcut
        have HE := Lib.hid (show tkS s (min (e + 1) s.size) = (d', T') ∧ (e + 1 ≤ s.size → runBeg s (e + 1) = e + 1) by
          by_cases he : e < s.size
          · rw [show min (e + 1) s.size = e + 1 by omega, HSK.out.1, HN.out, HC.out.1]
            exact ⟨rfl, fun _ => HSK.out.2⟩
          · rw [show min (e + 1) s.size = e by omega, HN.out, HC.out.1]
            exact ⟨rfl, fun h => by omega⟩)
        clear HT HBL
        go_wp2_with (first | (go_at_call 14; (with_reducible refine (C3.out _).mono ?_); rintro e w' ⟨rfl, rfl⟩))
        go_roundw
        case rel => exact ⟨e + 1, by omega, by go_num, by rw [HE.out.1], Lib.hid ⟨by rw [HE.out.1]; exact HC.out.2.1, HE.out.2, HC.out.2.2⟩⟩
        case measure => simp [intOf]; omega
    · rw [show min k s.size = s.size by omega] at HR ⊢
      have ht := tkS_ok s s.size
      rw [inw_end] at ht
      simp only [Bool.false_eq_true, if_false] at ht
      obtain ⟨t1, t2⟩ := ht
      have TLN := Lib.hid (show (tkS s s.size).2.length ≤ s.size by have := chn_len _ _ _ t2; omega)
      have HA := Lib.hid (show tkAll s = (tkS s s.size).2 ++ gapT (tkS s s.size).1 s.size from rfl)
      have HT := Lib.hid HR.out.1
      have HBL := Lib.hid HR.out.2.2
      clear HR t2
      generalize tkS s s.size = dT at *
      obtain ⟨d, T⟩ := dT
      simp only at *
      have j1 : ¬ (k : Int) < (s.size : Int) := by omega
      by_cases hg : d < s.size
      · have i2 : (d : Int) < (s.size : Int) := by omega
        have HQ := Lib.hid (show tkAll s = T ++ [(d, s.size, false)] by rw [HA.out]; unfold gapT; rw [if_pos hg])
        go_wp2_with (at_builtin; refine wpList_append_own _ rfl _ _ 23 rfl w.heap.size 26 i0 (.agg #[.string ⟨#[]⟩, .bool false]) 2 24 Tryd.underlying23 hi hz0 hz1 hz2 rfl (by decide) _ _ _ rfl (World.ownsRow.alloc HT.out _) ⟨wo.heap.size, 0, none⟩ 1 1 [.string (s.extract d s.size), .bool false] rfl rfl (cells_two_new _ _ _ _) ?q4x2 ?q4x3 ?q4x4 ?q4x5 ?_)
        case q4x2 => first | exact ⟨rfl, rfl⟩ | (intro u hu; simp at hu; rcases hu with rfl | rfl <;> rfl)
        case q4x3 => have := TLN.out; unfold maxLen; simp <;> omega
        case q4x4 => have := TLN.out; simp <;> omega
        case q4x5 => have := HBL.out.size; simp; omega
        intro v' w5 hown hgr _
        have T5 := Lib.hid (show TokRow w5 w.heap.size s (T ++ [(d, s.size, false)]) v' by unfold TokRow; rw [← flatT_snoc, List.length_append (bs := [_]), List.length_singleton]; exact hown)
        have B5 := Lib.hid ((below_alloc HBL.out (.cells #[.string (s.extract d s.size), .bool false] 26)).grown hgr (by have := HBL.out.size; simp; omega) (fun j hj => (World.ownsRow.lt HT.out j hj).1))
        clear hown hgr
        go_wp2_with fail
        go_ret
        exact ⟨_, rfl, by rw [HQ.out]; exact T5.out, B5.out⟩
      · have i2 : ¬ (d : Int) < (s.size : Int) := by omega
        have HQ := Lib.hid (show tkAll s = T by rw [HA.out]; unfold gapT; rw [if_neg hg, List.append_nil])
        go_wp2_with fail
        go_ret
        exact ⟨_, rfl, by rw [HQ.out]; exact HT.out, HBL.out⟩

end Go.Proofs.YtmoplmjfnjgcaaaDoor
namespace Go.Proofs.YtmoplmjfnjgcaaaDoor
open Go.RowKit
set_option linter.unusedSimpArgs false
set_option linter.unusedVariables false

theorem ext_nil (s : ByteArray) (p : Nat) : s.extract p p = ⟨#[]⟩ := by
  apply ByteArray.ext
  simp only [ByteArray.data_extract]
  simp
  omega

theorem ext_full (s : ByteArray) (d p : Nat) (h : d < p) (hp : p ≤ s.size) : (s.extract d p).toList.isEmpty = false := by
  rw [Lib.toList_data]
  cases hl : (s.extract d p).data.toList with
  | nil =>
    have h1 : (s.extract d p).data.toList.length = (s.extract d p).size := by rw [Array.length_toList]; rfl
    rw [hl, size_sub s d p hp, List.length_nil] at h1
    omega
  | cons _ _ => rfl
theorem ext_empty (s : ByteArray) (d : Nat) : (s.extract d d).toList.isEmpty = true := by rw [ext_nil, Lib.toList_data]; rfl

/-- What the reference has behind p places; the text between begins at d. -/
structure RefTk (we : World) (N ob bb : Nat) (s : ByteArray) (d p : Nat) (T : List (Nat × Nat × Bool)) (w : World) : Prop where
  o : ∃ v, w.cell? ⟨ob, 0, none⟩ = some v ∧ TokRow w N s T v
  of : w.frozen? ⟨ob, 0, none⟩ = false
  t : w.cell? ⟨bb, 0, none⟩ = some (.string (s.extract d p))
  tf : w.frozen? ⟨bb, 0, none⟩ = false
  b : Below we.heap.size we w
  n : N ≤ w.heap.size

def OutIn (we : World) (N ob bb : Nat) : Prop := (we.heap.size ≤ ob ∧ ob < N) ∧ (we.heap.size ≤ bb ∧ bb < N) ∧ ob ≠ bb

theorem RefTk.setT {we w : World} {N ob bb d p d' p' : Nat} {s : ByteArray} {T : List (Nat × Nat × Bool)} (h : RefTk we N ob bb s d p T w) (hI : OutIn we N ob bb) {x : Value} (hx : x = .string (s.extract d' p')) : RefTk we N ob bb s d' p' T (w.setCell ⟨bb, 0, none⟩ x) := by
  subst hx
  obtain ⟨⟨i1, i2⟩, ⟨i3, i4⟩, i5⟩ := hI
  obtain ⟨v, hv, ht⟩ := h.o
  refine ⟨⟨v, ?_, ownsRow_setCell_below ht i4 _⟩, ?_, ?_, ?_, h.b.setCell i3 _, by simpa using h.n⟩
  · rw [World.cell?_setCell_other _ _ _ _ (by simp <;> omega)]; exact hv
  · rw [World.frozen?_setCell]; exact h.of
  · rw [World.cell?_setCell_same _ _ _ h.t]
  · rw [World.frozen?_setCell]; exact h.tf

set_option maxHeartbeats 1000000 in
set_option maxRecDepth 100000 in
theorem put_no (we : World) (N ob bb : Nat) (s : ByteArray) (d p q : Nat) (T : List (Nat × Nat × Bool)) (w : World) (hI : OutIn we N ob bb) (h : RefTk we N ob bb s d p T w) (h1 : d ≤ p) (h2 : p ≤ q) (h3 : q ≤ s.size) (hs : s.size ≤ 1048576) :
    Calls Tryd.prog 15 #[.string (s.extract p q), .bool false, .pointer (some ⟨bb, 0, none⟩), .pointer (some ⟨ob, 0, none⟩)] w fun r w' => r = .returned (.tuple #[]) ∧ RefTk we N ob bb s d q T w' := by
  have c1 := h.t
  have c2 := h.tf
  have HH := Lib.hid h
  have HI := Lib.hid hI
  clear h hI
  go_enter Tryd.func15, Tryd.ntmps15
  go_wp2_with fail
  go_end0
  exact ⟨rfl, HH.out.setT HI.out rfl⟩

theorem RefTk.later {we w w' : World} {N ob bb d p : Nat} {s : ByteArray} {T : List (Nat × Nat × Bool)} (h : RefTk we N ob bb s d p T w) (hb : Below w.heap.size w w') : RefTk we N ob bb s d p T w' := by
  obtain ⟨v, hv, ht⟩ := h.o
  have l1 := World.block_lt_of_cell? _ _ hv
  have l2 := World.block_lt_of_cell? _ _ h.t
  exact ⟨⟨v, cell_later hb hv, ht.later hb⟩, (World.frozen?_of_block (a := ⟨ob, 0, none⟩) (hb.block ob l1)).trans h.of, cell_later hb h.t, (World.frozen?_of_block (a := ⟨bb, 0, none⟩) (hb.block bb l2)).trans h.tf, h.b.trans (hb.mono h.b.size), Nat.le_trans h.n hb.size⟩

/-- A token has been appended and the list's header is stored. -/
theorem RefTk.put {we w w' : World} {N ob bb d p : Nat} {s : ByteArray} {T U : List (Nat × Nat × Bool)} {v v' : Value} (h : RefTk we N ob bb s d p T w) (hI : OutIn we N ob bb) (ht : TokRow w N s T v) (k1 : TokRow w' N s U v') (k2 : w.grownBy w' v.ownBlock) :
    RefTk we N ob bb s d p U (w'.setCell ⟨ob, 0, none⟩ v') ∧ w'.frozen? ⟨ob, 0, none⟩ = false ∧ (∃ x, w'.cell? ⟨ob, 0, none⟩ = some x) ∧ w'.cell? ⟨bb, 0, none⟩ = some (.string (s.extract d p)) ∧ w'.frozen? ⟨bb, 0, none⟩ = false := by
  obtain ⟨⟨i1, i2⟩, ⟨i3, i4⟩, i5⟩ := hI
  obtain ⟨u, hu, _⟩ := h.o
  have l1 : ob < w.heap.size := by have := World.block_lt_of_cell? _ _ hu; simpa using this
  have l2 : bb < w.heap.size := by have := World.block_lt_of_cell? _ _ h.t; simpa using this
  have hn : ∀ j, v.ownBlock = some j → N ≤ j := fun j hj => (World.ownsRow.lt ht j hj).1
  have b1 : w'.heap[ob]? = w.heap[ob]? := k2.block ob l1 (fun e => by have := hn ob e.symm; omega)
  have b2 : w'.heap[bb]? = w.heap[bb]? := k2.block bb l2 (fun e => by have := hn bb e.symm; omega)
  have c1 : w'.cell? ⟨ob, 0, none⟩ = some u := (World.cell?_of_block (a := ⟨ob, 0, none⟩) b1).trans hu
  have c2 : w'.cell? ⟨bb, 0, none⟩ = some (.string (s.extract d p)) := (World.cell?_of_block (a := ⟨bb, 0, none⟩) b2).trans h.t
  have f1 : w'.frozen? ⟨ob, 0, none⟩ = false := (World.frozen?_of_block (a := ⟨ob, 0, none⟩) b1).trans h.of
  have f2 : w'.frozen? ⟨bb, 0, none⟩ = false := (World.frozen?_of_block (a := ⟨bb, 0, none⟩) b2).trans h.tf
  refine ⟨⟨⟨v', ?_, ownsRow_setCell_below k1 i2 _⟩, ?_, ?_, ?_, ?_, ?_⟩, f1, ⟨u, c1⟩, c2, f2⟩
  · rw [World.cell?_setCell_same _ _ _ c1]
  · rw [World.frozen?_setCell]; exact f1
  · rw [World.cell?_setCell_other _ _ _ _ (by simp <;> omega)]; exact c2
  · rw [World.frozen?_setCell]; exact f2
  · refine Below.setCell ?_ i1 _
    exact h.b.grown k2 h.b.size (fun j hj => by have := hn j hj; omega)
  · simpa using Nat.le_trans h.n k2.size

/-- Where nothing is between, it begins wherever one likes. -/
theorem RefTk.nilT {we w : World} {N ob bb p q : Nat} {s : ByteArray} {T : List (Nat × Nat × Bool)} (h : RefTk we N ob bb s p p T w) (hI : OutIn we N ob bb) : RefTk we N ob bb s q q T w :=
  ⟨h.o, h.of, by rw [h.t, ext_nil, ext_nil], h.tf, h.b, h.n⟩

set_option maxHeartbeats 1000000 in
set_option maxRecDepth 100000 in
theorem put_yes (we : World) (N ob bb : Nat) (s : ByteArray) (d p q : Nat) (T : List (Nat × Nat × Bool)) (w : World) (hI : OutIn we N ob bb) (h : RefTk we N ob bb s d p T w) (h1 : d ≤ p) (h2 : p < q) (h3 : q ≤ s.size) (hs : s.size ≤ 1048576) (hT : T.length ≤ d) :
    Calls Tryd.prog 15 #[.string (s.extract p q), .bool true, .pointer (some ⟨bb, 0, none⟩), .pointer (some ⟨ob, 0, none⟩)] w fun r w' => r = .returned (.tuple #[]) ∧ RefTk we N ob bb s q q (T ++ gapT d p ++ [(p, q, true)]) w' := by
  obtain ⟨i0, hi, hz0, hz1, hz2⟩ := info_parts info_token
  obtain ⟨v, hv, ht⟩ := h.o
  have c1 := h.t
  have c2 := h.tf
  have c3 := h.of
  have HH := Lib.hid h
  have HI := Lib.hid hI
  have HT := Lib.hid ht
  have HZ := Lib.hid (size_sub s d p (by omega))
  clear h hI ht
  by_cases hg : d < p
  · have hem := ext_full s d p hg (by omega)
    have HL := Lib.hid (show T ++ gapT d p = T ++ [(d, p, false)] by unfold gapT; rw [if_pos hg])
    go_enter Tryd.func15, Tryd.ntmps15
    go_wp2_with (at_builtin; refine wpList_append_own _ rfl _ _ 23 rfl N 26 i0 (.agg #[.string ⟨#[]⟩, .bool false]) 2 24 Tryd.underlying23 hi hz0 hz1 hz2 rfl (by decide) _ _ _ rfl (World.ownsRow.alloc HT.out _) ⟨w.heap.size, 0, none⟩ 1 1 [.string (s.extract d p), .bool false] rfl rfl (cells_two_new _ _ _ _) ?q1x2 ?q1x3 ?q1x4 ?q1x5 ?_)
    case q1x2 => first | exact ⟨rfl, rfl⟩ | (intro u hu; simp at hu; rcases hu with rfl | rfl <;> rfl)
    case q1x3 => unfold maxLen; omega
    case q1x4 => omega
    case q1x5 => have := HH.out.n; simp <;> omega
    intro v' w5 hown hgr _
    have T5 := Lib.hid (show TokRow w5 N s (T ++ [(d, p, false)]) v' by unfold TokRow; rw [← flatT_snoc, List.length_append (bs := [_]), List.length_singleton]; exact hown)
    obtain ⟨sa, sc, hsh, _⟩ := T5.out.shape
    simp only [List.length_append, List.length_singleton] at hsh
    subst hsh
    obtain ⟨r1, r2, ⟨r3x, r3⟩, r4, r5⟩ := (HH.out.later (new_below _ (.cells #[.string (s.extract d p), .bool false] 26))).put HI.out (World.ownsRow.alloc HT.out _) T5.out hgr
    have R5 := Lib.hid r1
    clear hown hgr r1
    go_upto_region 2 with (fail)
    obtain ⟨w6, hw6⟩ : ∃ w6, w6 = w5.setCell ⟨ob, 0, none⟩ (.slice sa (T.length + 1) sc) := ⟨_, rfl⟩
    rw [← hw6] at R5
    have c1 := R5.out.t
    have c2 := R5.out.tf
    rw [← hw6]
    clear hw6 r2 r3 r4 r5
    go_upto_region 4 with (fail)
    have R7 := Lib.hid (R5.out.setT HI.out (x := .string ⟨#[]⟩) (by rw [← ext_nil s p]))
    obtain ⟨w7, hw7⟩ : ∃ w7, w7 = w6.setCell ⟨bb, 0, none⟩ (.string ⟨#[]⟩) := ⟨_, rfl⟩
    rw [← hw7] at R7
    rw [← hw7]
    clear hw7 c1 c2 hv
    obtain ⟨v7, hv7, ht7⟩ := R7.out.o
    have c3 := R7.out.of
    have HT7 := Lib.hid ht7
    clear ht7
    go_wp2_with (at_builtin; refine wpList_append_own _ rfl _ _ 23 rfl N 26 i0 (.agg #[.string ⟨#[]⟩, .bool false]) 2 24 Tryd.underlying23 hi hz0 hz1 hz2 rfl (by decide) _ _ _ rfl (World.ownsRow.alloc HT7.out _) ⟨w7.heap.size, 0, none⟩ 1 1 [.string (s.extract p q), .bool true] rfl rfl (cells_two_new _ _ _ _) ?q2x2 ?q2x3 ?q2x4 ?q2x5 ?_)
    case q2x2 => first | exact ⟨rfl, rfl⟩ | (intro u hu; simp at hu; rcases hu with rfl | rfl <;> rfl)
    case q2x3 => unfold maxLen; (rw [List.length_append, List.length_singleton]; omega)
    case q2x4 => (rw [List.length_append, List.length_singleton]; omega)
    case q2x5 => have := R7.out.n; simp <;> omega
    intro v' w8 hown hgr _
    have T8 := Lib.hid (show TokRow w8 N s (T ++ [(d, p, false)] ++ [(p, q, true)]) v' by unfold TokRow; rw [← flatT_snoc, List.length_append (bs := [_]), List.length_singleton]; rw [List.length_append, List.length_singleton]; exact hown)
    obtain ⟨sb, sc2, hsh, _⟩ := T8.out.shape
    simp only [List.length_append, List.length_singleton] at hsh
    subst hsh
    obtain ⟨r1, r2, ⟨r3x, r3⟩, r4, r5⟩ := (R7.out.later (new_below _ (.cells #[.string (s.extract p q), .bool true] 26))).put HI.out (World.ownsRow.alloc HT7.out _) T8.out hgr
    have R8 := Lib.hid r1
    clear hown hgr r1
    go_wp2_with fail
    go_end0
    exact ⟨rfl, by rw [HL.out]; exact R8.out.nilT HI.out⟩
  · have HL := Lib.hid (show T ++ gapT d p = T by unfold gapT; rw [if_neg hg, List.append_nil])
    obtain rfl : d = p := by omega
    have hem := ext_empty s d
    go_enter Tryd.func15, Tryd.ntmps15
    go_wp2_with (at_builtin; refine wpList_append_own _ rfl _ _ 23 rfl N 26 i0 (.agg #[.string ⟨#[]⟩, .bool false]) 2 24 Tryd.underlying23 hi hz0 hz1 hz2 rfl (by decide) _ _ _ rfl (World.ownsRow.alloc HT.out _) ⟨w.heap.size, 0, none⟩ 1 1 [.string (s.extract d q), .bool true] rfl rfl (cells_two_new _ _ _ _) ?q3x2 ?q3x3 ?q3x4 ?q3x5 ?_)
    case q3x2 => first | exact ⟨rfl, rfl⟩ | (intro u hu; simp at hu; rcases hu with rfl | rfl <;> rfl)
    case q3x3 => unfold maxLen; omega
    case q3x4 => omega
    case q3x5 => have := HH.out.n; simp <;> omega
    intro v' w8 hown hgr _
    have T8 := Lib.hid (show TokRow w8 N s (T ++ [(d, q, true)]) v' by unfold TokRow; rw [← flatT_snoc, List.length_append (bs := [_]), List.length_singleton]; exact hown)
    obtain ⟨sb, sc2, hsh, _⟩ := T8.out.shape
    simp only [List.length_append, List.length_singleton] at hsh
    subst hsh
    obtain ⟨r1, r2, ⟨r3x, r3⟩, r4, r5⟩ := (HH.out.later (new_below _ (.cells #[.string (s.extract d q), .bool true] 26))).put HI.out (World.ownsRow.alloc HT.out _) T8.out hgr
    have R8 := Lib.hid r1
    clear hown hgr r1
    go_wp2_with fail
    go_end0
    exact ⟨rfl, by rw [HL.out]; exact R8.out.nilT HI.out⟩

end Go.Proofs.YtmoplmjfnjgcaaaDoor
namespace Go.Proofs.YtmoplmjfnjgcaaaDoor
open Go.RowKit
set_option linter.unusedSimpArgs false
set_option linter.unusedVariables false

theorem lstN_ge (s : ByteArray) (p e : Nat) (hb : runBeg s p = p) (hp : p ≤ e) : p ≤ lstN s e := by
  by_cases h : ∃ j, p ≤ j ∧ j < e ∧ byteAt s j ≠ 39
  · obtain ⟨j, h1, h2, h3⟩ := h
    have := lstN_above s e j h2 h3
    omega
  · have := lstN_all s p e hb hp (fun j h1 h2 => by
      apply Classical.byContradiction
      intro h3
      exact h ⟨j, h1, h2, h3⟩)
    omega
theorem lstN_low (s : ByteArray) (p e : Nat) (hb : runBeg s p = p) (hp : p ≤ e) (h : ¬ fstN s e (e - p) < e) : lstN s e = p := by
  obtain ⟨f1, f2, f3, f4⟩ := fstN_spec s e (e - p) (by omega)
  exact lstN_all s p e hb hp (fun j h1 h2 => f3 j (by omega) (by omega))

theorem ext_ext (s : ByteArray) (a b i j : Nat) (ha : a ≤ b) (h : b ≤ s.size) (hj : j ≤ b - a) : (s.extract a b).extract i j = s.extract (a + i) (a + j) := by
  apply ByteArray.ext
  simp only [ByteArray.data_extract, Array.extract_extract]
  congr 1
  omega

theorem tLeft (s x : ByteArray) (p e : Nat) (w : World) (hx : x = s.extract p e) (hp : p ≤ e) (he : e ≤ s.size) (hs : s.size ≤ 1048576) :
    Calls Tryd.prog 17 #[.string x, .string ⟨#[39]⟩] w fun r w' => (∃ t, r = .returned (.string t) ∧ IntKind.i64.wrap (((e - p : Nat) : Int) - (t.size : Int)) = ((fstN s e (e - p) - p : Nat) : Int)) ∧ w = w' := by
  subst hx
  obtain ⟨f1, f2, _⟩ := fstN_spec s e (e - p) (by omega)
  refine (trimLeft_sub s p e w hp he (by omega)).mono ?_
  rintro r w' ⟨⟨t, rfl, _, h⟩, rfl⟩
  exact ⟨⟨t, rfl, by rw [h, show (((e - p : Nat) : Int)) - ((e - fstN s e (e - p) : Nat) : Int) = ((fstN s e (e - p) - p : Nat) : Int) by omega]; exact IntWalk.i64_in _ (by omega)⟩, rfl⟩
theorem tRight (s x : ByteArray) (p e : Nat) (w : World) (hx : x = s.extract p e) (hp : p ≤ e) (he : e ≤ s.size) (hs : s.size ≤ 1048576) (hb : runBeg s p = p) :
    Calls Tryd.prog 18 #[.string x, .string ⟨#[39]⟩] w fun r w' => (∃ t, r = .returned (.string t) ∧ ((t.size : Nat) : Int) = ((lstN s e - p : Nat) : Int)) ∧ w = w' := by
  subst hx
  have hz : (s.extract p e).size ≤ 9223372036854775807 := by rw [size_sub _ _ _ he]; omega
  refine (Tryd.strings_TrimRight_one (s.extract p e) 39 (by decide) w hz).mono ?_
  rintro r w' ⟨rfl, rfl⟩
  exact ⟨⟨_, rfl, by rw [size_list, trimR_len s p e hp he (lstN_ge s p e hb hp)]⟩, rfl⟩

set_option maxHeartbeats 4000000 in
set_option maxRecDepth 100000 in
theorem tokensR_any (s : ByteArray) (w : World) (hs : s.size ≤ 1048576) :
    Calls Tryd.prog 8 #[.string s] w fun r w' => ∃ v, r = .returned v ∧ TokRow w' w.heap.size s (tkAll s) v ∧ Below w.heap.size w w' := by
  have hmf : ∀ (fn : Fn) (first cap : Array Value) (w : World), (Instr.makeFunc fn first cap).run Tryd.prog w = .ok (.func fn first cap) w := fun _ _ _ _ => rfl
  obtain ⟨i0, hi, hz0, hz1, hz2⟩ := info_parts info_token
  obtain ⟨w1, hw1⟩ : ∃ w1, w1 = (w.alloc (.cells #[.slice none 0 0] 23)).alloc (.cells #[.string ⟨#[]⟩] 9) := ⟨_, rfl⟩
  have R0 := Lib.hid (show RefTk w (w.heap.size + 2) w.heap.size (w.heap.size + 1) s (tkS s 0).1 0 (tkS s 0).2 w1 from by
    rw [hw1]
    refine ⟨⟨.slice none 0 0, by go_simp, TokRow.nil _ _ _⟩, by go_simp, ?_, by go_simp, below_alloc (new_below _ _) _, by simp⟩
    show _ = some (Value.string (s.extract 0 0))
    rw [ext_nil]
    go_simp)
  have HI := Lib.hid (show OutIn w (w.heap.size + 2) w.heap.size (w.heap.size + 1) from ⟨⟨by omega, by omega⟩, ⟨by omega, by omega⟩, by omega⟩)
  have X0 := Lib.hid (show s = s.extract 0 s.size by apply ByteArray.ext; simp [ByteArray.data_extract])
  go_enter Tryd.func8, Tryd.ntmps8
  go_upto_region 3 with (fail)
  rw [← hw1]
  clear hw1
  go_wp2_with fail
  go_loopw [0] (fun v0 wr => ∃ p : Nat, p ≤ s.size ∧ v0 = .string (s.extract p s.size) ∧ Hid ((inwB (byteAt s p) = true → runBeg s p = p) ∧ RefTk w (w.heap.size + 2) w.heap.size (w.heap.size + 1) s (tkS s p).1 p (tkS s p).2 wr)) (fun v0 _ => Lib.strSize v0)
  case atStart => exact ⟨0, Nat.zero_le _, by rw [← X0.out], Lib.hid ⟨fun _ => rfl, R0.out⟩⟩
  case round =>
    obtain ⟨p, hp, rfl, HR⟩ := hrel
    clear R0
    obtain ⟨wo, rfl⟩ : ∃ wo : World, wo = wr := ⟨_, rfl⟩
    obtain ⟨m, hm⟩ : ∃ m, s.size = p + m := ⟨s.size - p, by omega⟩
    have hz : (s.extract p s.size).size = m := by rw [size_sub _ _ _ (Nat.le_refl _)]; omega
    have hB : ∀ i, i < m → byteAt (s.extract p s.size) i = byteAt s (p + i) := fun i hi => byteAt_sub s p s.size i (Nat.le_refl _) (by omega)
    have hX : ∀ i j, j ≤ m → (s.extract p s.size).extract i j = s.extract (p + i) (p + j) := fun i j hj => ext_ext s p s.size i j hp (Nat.le_refl _) (by omega)
    obtain ⟨x, hx⟩ : ∃ x, x = s.extract p s.size := ⟨_, rfl⟩
    rw [← hx] at hz hB hX ⊢
    have HB := Lib.hid hB
    have HX := Lib.hid hX
    have HM := Lib.hid hm
    have HXX := Lib.hid hx
    clear hB hX hx hm
    by_cases hlt : 0 < m
    · have hem : x.toList.isEmpty = false := by rw [HXX.out]; exact ext_full s p s.size (by have := HM.out; omega) (Nat.le_refl _)
      have hm0 : m ≤ 1048576 := by have := HM.out; omega
      obtain ⟨e1, e2, e3, e4⟩ := endOf_spec s p hp
      have EQ := Lib.hid (endOf_eq s p)
      obtain ⟨E, hE⟩ : ∃ E, E = endOf s p := ⟨_, rfl⟩
      rw [← hE] at e1 e2 e3 e4 EQ
      obtain ⟨n, hn⟩ : ∃ n, E = p + n := ⟨E - p, by omega⟩
      subst hn
      have E3 := Lib.hid e3
      have E4 := Lib.hid e4
      clear e3 e4 hE
      go_upto_block 2 with (fail)
      go_cut [6] from 13 to 30 (fun n6 wx => n6 = .int .i64 n ∧ wx = wo)
      case first =>
        go_wp2_with fail
        go_loopw [6] (fun n6 wr => ∃ k : Nat, k ≤ m ∧ n6 = .int .i64 k ∧ wr = wo ∧ Hid (∀ j, p ≤ j → j < p + k → inwB (byteAt s j) = true)) (fun n6 _ => m - (intOf n6).toNat)
        case atStart => exact ⟨0, Nat.zero_le _, rfl, rfl, Lib.hid (fun j h1 h2 => by omega)⟩
        case round =>
          obtain ⟨k, hk, rfl, rfl, HK⟩ := hrel
          by_cases hkm : k < m
          · have i1 : (k : Int) < (m : Int) := by omega
            have hkx : k < x.size := by omega
            have hb := byteAt_get x k hkx
            rw [HB.out k hkm] at hb
            have HBY := Lib.hid hb
            clear hb
            cases hl : letB (x[k].toNat : Int)
            · by_cases h39 : (x[k].toNat : Int) = 39
              · have h39' : ((x[k].toNat : Int) == 39) = true := by simp [h39]
                have HIN := Lib.hid (show inwB (byteAt s (p + k)) = true by rw [← HBY.out]; unfold inwB; rw [hl]; simp [h39])
                clear h39
                go_wp2_with (first | (go_at_call 16; refine (isLetterR_any _ _).mono ?_; rintro e w' ⟨rfl, rfl⟩))
                go_roundw
                case rel => exact ⟨k + 1, by omega, by go_num, trivial, Lib.hid (fun j h1 h2 => by
                  by_cases e : j = p + k
                  · rw [e]; exact HIN.out
                  · exact HK.out j h1 (by omega))⟩
                case measure => simp [intOf]; omega
              · have h39' : ((x[k].toNat : Int) == 39) = false := by simp [h39]
                have hkn : k = n := by
                  have := EQ.out (p + k) (by omega) (by have := HM.out; omega) HK.out (by rw [← HBY.out]; unfold inwB; rw [hl]; simp [h39])
                  omega
                have HKN := Lib.hid hkn
                clear h39 hkn
                go_wp2_with (first | (go_at_call 16; refine (isLetterR_any _ _).mono ?_; rintro e w' ⟨rfl, rfl⟩))
                go_meet
                case rel => exact ⟨by rw [HKN.out], rfl⟩
            · have HIN := Lib.hid (show inwB (byteAt s (p + k)) = true by rw [← HBY.out]; unfold inwB; rw [hl]; rfl)
              go_wp2_with (first | (go_at_call 16; refine (isLetterR_any _ _).mono ?_; rintro e w' ⟨rfl, rfl⟩))
              go_roundw
              case rel => exact ⟨k + 1, by omega, by go_num, trivial, Lib.hid (fun j h1 h2 => by
                by_cases e : j = p + k
                · rw [e]; exact HIN.out
                · exact HK.out j h1 (by omega))⟩
              case measure => simp [intOf]; omega
          · have i1 : ¬ (k : Int) < (m : Int) := by omega
            have hkn : k = n := by
              have := EQ.out (p + k) (by omega) (by have := HM.out; omega) HK.out (by rw [show p + k = s.size by have := HM.out; omega]; exact inw_end s)
              omega
            go_wp2_with fail
            go_meet
            case rel => first | exact ⟨rfl, rfl⟩ | exact ⟨by rw [hkn], rfl⟩
      case rest =>
        obtain ⟨rfl, rfl⟩ := hcut
        have HTA := Lib.hid (tkS_at s p)
        have hpm := HM.out
        rcases Nat.eq_zero_or_pos n with hn0 | hn0
        · subst hn0
          have e4 : inwB (byteAt s p) = false := E4.out
          have hsk := tkS_skip s p e4
          have hd : (tkS s p).1 ≤ p := by have := tkS_ok s p; rw [e4] at this; simpa using this.1
          have P1 := Lib.hid (put_no w (w.heap.size + 2) w.heap.size (w.heap.size + 1) s _ p (p + 1) _ wc HI.out HR.out.2 hd (by omega) (by omega) hs)
          have HSK := Lib.hid hsk
          have hx1 : x.extract 0 1 = s.extract p (p + 1) := HX.out 0 1 (by omega)
          have hx2 : x.extract 1 m = s.extract (p + 1) s.size := by rw [HX.out 1 m (Nat.le_refl _), ← hpm]
          have HMS := Lib.hid (show Lib.strSize (.string (s.extract (p + 1) s.size)) < Lib.strSize (.string x) by
            rw [Lib.strSize_string, Lib.strSize_string, hz, size_sub _ _ _ (Nat.le_refl _)]; omega)
          clear hsk hd hpm e4
          go_wp2_with fail
          refine P1.out.mono ?_
          rintro r w6 ⟨rfl, h6⟩
          have R6 := Lib.hid h6
          clear h6
          go_wp2_with fail
          go_roundw
          case rel => exact ⟨p + 1, by have := HM.out; omega, rfl, Lib.hid ⟨fun _ => HSK.out.2, by rw [HSK.out.1]; exact R6.out⟩⟩
          case measure => exact HMS.out
        · have hin := E3.out p (Nat.le_refl _) (by omega)
          have hb := HR.out.1 hin
          have hrun := tkS_run s p (p + n) hb E3.out (by omega) E4.out
          obtain ⟨t1, t2⟩ := tkS_at s p hb
          obtain ⟨f1, f2, f3, f4⟩ := fstN_spec s (p + n) (p + n - p) (by omega)
          obtain ⟨l1, l2, l3⟩ := lstN_spec s (p + n)
          have lge := lstN_ge s p (p + n) hb (by omega)
          have llow := lstN_low s p (p + n) hb (by omega)
          have labv := fun h => lstN_above s (p + n) _ h (f4 h)
          have hhn : hndT s (tkS s p) p (p + n) = if fstN s (p + n) (p + n - p) < p + n ∧ lstN s (p + n) - fstN s (p + n) (p + n - p) ≤ 40 then (lstN s (p + n), (tkS s p).2 ++ gapT (tkS s p).1 (fstN s (p + n) (p + n - p)) ++ [(fstN s (p + n) (p + n - p), lstN s (p + n), true)]) else tkS s p := rfl
          obtain ⟨y, hy⟩ : ∃ y, y = s.extract p (p + n) := ⟨_, rfl⟩
          have TL := Lib.hid (fun w => tLeft s y p (p + n) w hy (by omega) (by omega) hs)
          have TR := Lib.hid (fun w => tRight s y p (p + n) w hy (by omega) (by omega) hs hb)
          have TLN := Lib.hid (show (tkS s p).2.length ≤ (tkS s p).1 by have := chn_len _ _ _ t2; omega)
          rw [Nat.add_sub_cancel_left] at TL hhn f1 f2 llow labv
          clear f3 f4 l2 l3 t2
          obtain ⟨a, ha⟩ : ∃ a, fstN s (p + n) n = p + a := ⟨fstN s (p + n) n - p, by omega⟩
          obtain ⟨b, hb'⟩ : ∃ b, lstN s (p + n) = p + b := ⟨lstN s (p + n) - p, by omega⟩
          rw [ha] at hhn llow labv f2 TL
          rw [hb'] at hhn llow labv l1 TR
          rw [Nat.add_sub_cancel_left] at TL TR
          have han : a ≤ n := by omega
          have hbn : b ≤ n := by omega
          have hab : a < n → a < b := fun h => by have := labv (by omega); omega
          have hb0 : ¬ a < n → b = 0 := fun h => by have := llow (by omega); omega
          have HH := Lib.hid hhn
          have HRUN := Lib.hid hrun
          have hyE : ∀ i j, j ≤ n → y.extract i j = s.extract (p + i) (p + j) := fun i j hj => by rw [hy]; exact ext_ext s p (p + n) i j (by omega) (by omega) (by omega)
          have hyz : y.size = n := by rw [hy, size_sub _ _ _ (by omega)]; omega
          have hx1 : x.extract 0 n = y := by rw [HX.out 0 n (by omega), hy]; rfl
          have hx2 : x.extract n m = s.extract (p + n) s.size := by rw [HX.out n m (Nat.le_refl _), ← hpm]
          have hy1 : y.extract 0 a = s.extract p (p + a) := hyE 0 a han
          have hy2 : y.extract a b = s.extract (p + a) (p + b) := hyE a b hbn
          have hy3 : y.extract b n = s.extract (p + b) (p + n) := hyE b n (Nat.le_refl _)
          have HYY := Lib.hid hy
          have HMS := Lib.hid (show Lib.strSize (.string (s.extract (p + n) s.size)) < Lib.strSize (.string x) by
            rw [Lib.strSize_string, Lib.strSize_string, hz, size_sub _ _ _ (Nat.le_refl _)]; omega)
          have R1 := Lib.hid HR.out.2
          have i0' : ((n : Int) == 0) = false := by simp; omega
          have hpn : p + n ≤ s.size := by omega
          have hnm : n ≤ m := by omega
          clear hrun hhn llow labv lge ha hb' hyE hy hin hb HR hpm
          obtain ⟨dT, hdT⟩ : ∃ dT, dT = tkS s p := ⟨_, rfl⟩
          rw [← hdT] at HH R1 t1 TLN HRUN
          obtain ⟨d, T⟩ := dT
          simp only at HH R1 t1 TLN
          clear hdT
          by_cases hw : a < n ∧ b - a ≤ 40
          · obtain ⟨w1', w2'⟩ := hw
            have hlt2 := hab w1'
            have HQ := Lib.hid (show hndT s (d, T) p (p + n) = (p + b, T ++ gapT d (p + a) ++ [(p + a, p + b, true)]) by rw [HH.out, if_pos ⟨by omega, by omega⟩])
            have j1 : ¬ (b : Int) ≤ (a : Int) := by omega
            have j2 : IntKind.i64.wrap ((b : Int) - (a : Int)) = (b : Int) - (a : Int) := IntWalk.i64_in _ (by omega)
            have j3 : ¬ (40 : Int) < (b : Int) - (a : Int) := by omega
            have P1 := Lib.hid (put_no w (w.heap.size + 2) w.heap.size (w.heap.size + 1) s d p (p + a) T wc HI.out R1.out t1 (by omega) (by omega) hs)
            clear hab hb0
            go_wp2_with (first | (go_at_call 17; (with_reducible refine (TL.out _).mono ?_); rintro e w' ⟨⟨t1, rfl, q1⟩, rfl⟩) | (go_at_call 18; (with_reducible refine (TR.out _).mono ?_); rintro e w' ⟨⟨t2, rfl, q2⟩, rfl⟩))
            refine P1.out.mono ?_
            rintro r w6 ⟨rfl, h6⟩
            have P2 := Lib.hid (put_yes w (w.heap.size + 2) w.heap.size (w.heap.size + 1) s d (p + a) (p + b) T w6 HI.out h6 (by omega) (by omega) (by omega) hs TLN.out)
            clear h6
            go_wp2_with fail
            refine P2.out.mono ?_
            rintro r w7 ⟨rfl, h7⟩
            have P3 := Lib.hid (put_no w (w.heap.size + 2) w.heap.size (w.heap.size + 1) s (p + b) (p + b) (p + n) _ w7 HI.out h7 (Nat.le_refl _) (by omega) (by omega) hs)
            clear h7
            go_wp2_with fail
            refine P3.out.mono ?_
            rintro r w8 ⟨rfl, h8⟩
            have R8 := Lib.hid h8
            clear h8
            go_wp2_with fail
            go_roundw
            case rel => exact ⟨p + n, hpn, rfl, Lib.hid ⟨(fun h => by rw [E4.out] at h; cases h), by rw [HRUN.out, HQ.out]; exact R8.out⟩⟩
            case measure => exact HMS.out
          · have HQ := Lib.hid (show hndT s (d, T) p (p + n) = (d, T) by rw [HH.out, if_neg (by omega)])
            have P1 := Lib.hid (put_no w (w.heap.size + 2) w.heap.size (w.heap.size + 1) s d p (p + n) T wc HI.out R1.out t1 (by omega) hpn hs)
            rw [← HYY.out] at P1
            by_cases hw1 : a < n
            · have hlt2 := hab hw1
              have j1 : ¬ (b : Int) ≤ (a : Int) := by omega
              have j2 : IntKind.i64.wrap ((b : Int) - (a : Int)) = (b : Int) - (a : Int) := IntWalk.i64_in _ (by omega)
              have j3 : (40 : Int) < (b : Int) - (a : Int) := by omega
              clear hab hb0 hw
              go_wp2_with (first | (go_at_call 17; (with_reducible refine (TL.out _).mono ?_); rintro e w' ⟨⟨t1, rfl, q1⟩, rfl⟩) | (go_at_call 18; (with_reducible refine (TR.out _).mono ?_); rintro e w' ⟨⟨t2, rfl, q2⟩, rfl⟩))
              refine P1.out.mono ?_
              rintro r w8 ⟨rfl, h8⟩
              have R8 := Lib.hid h8
              clear h8
              go_wp2_with fail
              go_roundw
              case rel => exact ⟨p + n, hpn, rfl, Lib.hid ⟨(fun h => by rw [E4.out] at h; cases h), by rw [HRUN.out, HQ.out]; exact R8.out⟩⟩
              case measure => exact HMS.out
            · have hb00 := hb0 hw1
              subst hb00
              have j1 : (0 : Int) ≤ (a : Int) := by omega
              clear hab hb0 hw
              go_wp2_with (first | (go_at_call 17; (with_reducible refine (TL.out _).mono ?_); rintro e w' ⟨⟨t1, rfl, q1⟩, rfl⟩) | (go_at_call 18; (with_reducible refine (TR.out _).mono ?_); rintro e w' ⟨⟨t2, rfl, q2⟩, rfl⟩))
              refine P1.out.mono ?_
              rintro r w8 ⟨rfl, h8⟩
              have R8 := Lib.hid h8
              clear h8
              go_wp2_with fail
              go_roundw
              case rel => exact ⟨p + n, hpn, rfl, Lib.hid ⟨(fun h => by rw [E4.out] at h; cases h), by rw [HRUN.out, HQ.out]; exact R8.out⟩⟩
              case measure => exact HMS.out
    · obtain rfl : m = 0 := by omega
      have hps : p = s.size := by have := HM.out; omega
      have hem : x.toList.isEmpty = true := by rw [HXX.out, hps]; exact ext_empty s s.size
      subst hps
      have ht := tkS_ok s s.size
      rw [inw_end] at ht
      simp only [Bool.false_eq_true, if_false] at ht
      obtain ⟨t1, t2⟩ := ht
      have TLN := Lib.hid (show (tkS s s.size).2.length ≤ s.size by have := chn_len _ _ _ t2; omega)
      have HA := Lib.hid (show tkAll s = (tkS s s.size).2 ++ gapT (tkS s s.size).1 s.size from rfl)
      have R1 := Lib.hid HR.out.2
      clear HR t2
      generalize tkS s s.size = dT at *
      obtain ⟨d, T⟩ := dT
      simp only at *
      obtain ⟨v, hv, ht⟩ := R1.out.o
      have c1 := R1.out.t
      have c2 := R1.out.of
      have HT := Lib.hid ht
      have hsd := Lib.hid (size_sub s d s.size (Nat.le_refl _))
      clear ht
      by_cases hg : d < s.size
      · have hem2 := ext_full s d s.size hg (Nat.le_refl _)
        have HQ := Lib.hid (show tkAll s = T ++ [(d, s.size, false)] by rw [HA.out]; unfold gapT; rw [if_pos hg])
        go_wp2_with (at_builtin; refine wpList_append_own _ rfl _ _ 23 rfl (w.heap.size + 2) 26 i0 (.agg #[.string ⟨#[]⟩, .bool false]) 2 24 Tryd.underlying23 hi hz0 hz1 hz2 rfl (by decide) _ _ _ rfl (World.ownsRow.alloc HT.out _) ⟨wo.heap.size, 0, none⟩ 1 1 [.string (s.extract d s.size), .bool false] rfl rfl (cells_two_new _ _ _ _) ?q1x2 ?q1x3 ?q1x4 ?q1x5 ?_)
        case q1x2 => first | exact ⟨rfl, rfl⟩ | (intro u hu; simp at hu; rcases hu with rfl | rfl <;> rfl)
        case q1x3 => have := TLN.out; unfold maxLen; omega
        case q1x4 => have := TLN.out; omega
        case q1x5 => have := R1.out.n; simp <;> omega
        intro v' w5 hown hgr _
        have T5 := Lib.hid (show TokRow w5 (w.heap.size + 2) s (T ++ [(d, s.size, false)]) v' by unfold TokRow; rw [← flatT_snoc, List.length_append (bs := [_]), List.length_singleton]; exact hown)
        obtain ⟨sa, sc, hsh, _⟩ := T5.out.shape
        simp only [List.length_append, List.length_singleton] at hsh
        subst hsh
        obtain ⟨r1, r2, ⟨r3x, r3⟩, r4, r5⟩ := (R1.out.later (new_below _ (.cells #[.string (s.extract d s.size), .bool false] 26))).put HI.out (World.ownsRow.alloc HT.out _) T5.out hgr
        have R5 := Lib.hid r1
        clear hown hgr r1 hv c1 c2
        go_upto_region 22 with (fail)
        obtain ⟨w6, hw6⟩ : ∃ w6, w6 = w5.setCell ⟨w.heap.size, 0, none⟩ (.slice sa (T.length + 1) sc) := ⟨_, rfl⟩
        rw [← hw6] at R5
        rw [← hw6]
        clear hw6 r2 r3 r4 r5
        obtain ⟨v6, hv6, ht6⟩ := R5.out.o
        have HT6 := Lib.hid ht6
        clear ht6
        go_wp2_with fail
        go_ret
        exact ⟨_, rfl, by rw [HQ.out]; exact owns_base HT6.out (by omega), R5.out.b⟩
      · have hd : d = s.size := by omega
        subst hd
        have hem2 := ext_empty s s.size
        have HQ := Lib.hid (show tkAll s = T by rw [HA.out]; unfold gapT; rw [if_neg hg, List.append_nil])
        go_wp2_with fail
        go_ret
        exact ⟨_, rfl, by rw [HQ.out]; exact owns_base HT.out (by omega), R1.out.b⟩

end Go.Proofs.YtmoplmjfnjgcaaaDoor
namespace Go.Proofs.YtmoplmjfnjgcaaaDoor
open Go.RowKit
set_option linter.unusedSimpArgs false
set_option linter.unusedVariables false

theorem tokEq_zero (a b : Option Addr) (c d : Nat) (w : World) :
    Calls Tryd.prog 7 #[.slice a 0 c, .slice b 0 d] w fun e w' => e = .returned (.bool true) ∧ ∃ q, w' = w.drewN q := by
  go_enter Tryd.func7, Tryd.ntmps7
  go_wp2_with fail
  go_loop [13] (fun i => i = .int .i64 0) (fun _ => 0)
  case atStart => rfl
  case round =>
    subst hrel
    go_wp2_with fail
    go_ret
    exact ⟨rfl, 0, rfl⟩

set_option maxHeartbeats 1000000 in
set_option maxRecDepth 100000 in
theorem tokEq_some (s : ByteArray) (T : List (Nat × Nat × Bool)) (g1 g2 c1 c2 N1 N2 : Nat) (w : World) (hT : T.length ≤ 1048576)
    (h1 : TokRow w N1 s T (.slice (some ⟨g1, 0, none⟩) T.length c1)) (h2 : TokRow w N2 s T (.slice (some ⟨g2, 0, none⟩) T.length c2)) :
    Calls Tryd.prog 7 #[.slice (some ⟨g1, 0, none⟩) T.length c1, .slice (some ⟨g2, 0, none⟩) T.length c2] w fun e w' => e = .returned (.bool true) ∧ ∃ q, w' = w.drewN q := by
  have H1 := Lib.hid h1
  have H2 := Lib.hid h2
  obtain ⟨n, hn⟩ : ∃ n, n = T.length := ⟨_, rfl⟩
  have HN := Lib.hid hn
  rw [← hn] at hT ⊢
  clear h1 h2 hn
  go_enter Tryd.func7, Tryd.ntmps7
  go_wp2_with fail
  go_loopw [13] (fun i wr => ∃ k q : Nat, k ≤ n ∧ i = .int .i64 k ∧ wr = w.drewN q) (fun i _ => n - (intOf i).toNat)
  case atStart => exact ⟨0, 0, Nat.zero_le _, rfl, rfl⟩
  case round =>
    obtain ⟨k, q, hk, rfl, rfl⟩ := hrel
    by_cases hlt : k < n
    · have hkn : k < T.length := by have := HN.out; omega
      obtain ⟨f1, f2⟩ := flatT_get s T k hkn
      have r1 : w.cell? ⟨g1, k * 2, none⟩ = _ := (World.ownsRow.cellAt H1.out (k * 2) (by omega)).trans f1
      have r2 : w.cell? ⟨g1, k * 2 + 1, none⟩ = _ := (World.ownsRow.cellAt H1.out (k * 2 + 1) (by omega)).trans f2
      have r3 : w.cell? ⟨g2, k * 2, none⟩ = _ := (World.ownsRow.cellAt H2.out (k * 2) (by omega)).trans f1
      have r4 : w.cell? ⟨g2, k * 2 + 1, none⟩ = _ := (World.ownsRow.cellAt H2.out (k * 2 + 1) (by omega)).trans f2
      have i1 : (k : Int) < (n : Int) := by omega
      generalize T.getD k (0, 0, false) = t at *
      obtain ⟨ta, tb, tw⟩ := t
      simp only at r1 r2 r3 r4
      generalize s.extract ta tb = x at *
      clear f1 f2
      go_wp2_with fail
      go_quiet (fail)
      go_wp2_with fail
      go_roundw
      case rel => exact ⟨k + 1, _, by omega, by go_num, rfl⟩
      case measure => simp [intOf]; omega
    · obtain rfl : k = n := by omega
      go_wp2_with fail
      go_ret
      exact ⟨rfl, q, rfl⟩

end Go.Proofs.YtmoplmjfnjgcaaaDoor
namespace Go.Proofs.YtmoplmjfnjgcaaaDoor
open Go.RowKit
set_option linter.unusedSimpArgs false
set_option linter.unusedVariables false

theorem landed_any (w : World) : Calls Tryd.prog 5 #[] w fun e w' => e = .returned (.bool true) ∧ w = w' := by
  go_enter Tryd.func5, Tryd.ntmps5
  go_wp2_with fail
  refine (isName_any _ _ (by decide)).mono ?_
  rintro e w1 ⟨b, rfl, hb, rfl⟩
  have hn : NameP ⟨#[97]⟩ := ⟨⟨by decide, by decide⟩, fun k hk => by
    obtain rfl : k = 0 := by have : (ByteArray.mk #[97]).size = 1 := rfl; omega
    decide⟩
  obtain rfl : b = true := hb.2 hn
  go_wp2_with fail
  go_ret
  exact ⟨rfl, rfl⟩

end Go.Proofs.YtmoplmjfnjgcaaaDoor
namespace Go.Proofs.YtmoplmjfnjgcaaaDoor
open Go.RowKit
set_option linter.unusedSimpArgs false
set_option linter.unusedVariables false

/-- Where the tokens up to k end. -/
def endX (x : Nat) (T : List (Nat × Nat × Bool)) : Nat → Nat
  | 0 => x
  | k + 1 => (T.getD k (0, 0, false)).2.1
theorem endX_cons (x a b : Nat) (u : Bool) (T : List (Nat × Nat × Bool)) (k : Nat) : endX x ((a, b, u) :: T) (k + 1) = endX b T k := by
  cases k with
  | zero => rfl
  | succ k => simp [endX]
theorem chn_at (x y : Nat) (T : List (Nat × Nat × Bool)) (h : Chn x T y) (k : Nat) (hk : k < T.length) :
    (T.getD k (0, 0, false)).1 = endX x T k ∧ endX x T k < endX x T (k + 1) ∧ endX x T (k + 1) ≤ y := by
  induction T generalizing x k with
  | nil => simp at hk
  | cons t T ih =>
    obtain ⟨a, b, u⟩ := t
    simp only [Chn] at h
    have hl := chn_len _ _ _ h.2.2
    cases k with
    | zero =>
      rw [endX_cons]
      show a = x ∧ x < b ∧ b ≤ y
      omega
    | succ k =>
      have hk' : k < T.length := by simpa using hk
      obtain ⟨i1, i2, i3⟩ := ih b h.2.2 k hk'
      rw [endX_cons, endX_cons, List.getD_cons_succ]
      exact ⟨i1, i2, i3⟩
theorem chn_all (x y : Nat) (T : List (Nat × Nat × Bool)) (h : Chn x T y) : endX x T T.length = y := by
  induction T generalizing x with
  | nil => simpa [Chn, endX] using h
  | cons t T ih =>
    obtain ⟨a, b, u⟩ := t
    simp only [Chn] at h
    rw [List.length_cons, endX_cons]
    exact ih b h.2.2
def endT (T : List (Nat × Nat × Bool)) (k : Nat) : Nat := endX 0 T k
theorem endT_at (T : List (Nat × Nat × Bool)) (y : Nat) (h : Chn 0 T y) (k : Nat) (hk : k < T.length) : (T.getD k (0, 0, false)).1 = endT T k ∧ endT T k < endT T (k + 1) ∧ endT T (k + 1) ≤ y := chn_at 0 y T h k hk
theorem endT_all (T : List (Nat × Nat × Bool)) (y : Nat) (h : Chn 0 T y) : endT T T.length = y := chn_all 0 y T h

theorem TokRow.some {w : World} {N : Nat} {s : ByteArray} {T : List (Nat × Nat × Bool)} {v : Value} (h : TokRow w N s T v) (hT : 0 < T.length) : ∃ g c, v = .slice (some ⟨g, 0, none⟩) T.length c := by
  rcases h.2 with ⟨h0, h1⟩ | ⟨g, cap, cur, h0, _⟩
  · omega
  · exact ⟨g, cap, h0⟩

set_option maxHeartbeats 2000000 in
set_option maxRecDepth 100000 in
theorem tokens_any (s : ByteArray) (w : World) (hs : s.size ≤ 1048576) :
    Calls Tryd.prog 3 #[.string s] w fun e w' => e = .returned (.bool true) ∧ Below w.heap.size w w' := by
  have hc := tkAll_chn s
  have hl := tkAll_len s
  have K1 := Lib.hid (split_any s w hs)
  have K2 := Lib.hid (fun w => tokensR_any s w hs)
  have XS := Lib.hid (show s.extract 0 s.size = s by apply ByteArray.ext; simp [ByteArray.data_extract])
  generalize tkAll s = T at *
  have HA := Lib.hid (endT_at T s.size hc)
  have HE := Lib.hid (endT_all T s.size hc)
  clear hc
  go_enter Tryd.func3, Tryd.ntmps3
  go_wp2_with ((go_at_call 5; refine (landed_any _).mono ?_; rintro e w' ⟨rfl, rfl⟩))
  refine K1.out.mono ?_
  rintro e w5 ⟨v5, rfl, ht5, hb5⟩
  have T5 := Lib.hid ht5
  have B5 := Lib.hid hb5
  clear ht5 hb5
  by_cases h0 : 0 < T.length
  · obtain ⟨g5, c5, rfl⟩ := T5.out.some h0
    go_wp2_with fail
    go_loopw [4, 13] (fun v4 i wr => ∃ k : Nat, k ≤ T.length ∧ i = .int .i64 k ∧ v4 = .string (s.extract 0 (endT T k)) ∧ Hid (Below w5.heap.size w5 wr)) (fun _ i _ => T.length - (intOf i).toNat)
    case atStart => exact ⟨0, Nat.zero_le _, rfl, by rw [show endT T 0 = 0 from rfl, ext_nil], Lib.hid (Below.refl _ _)⟩
    case round =>
      obtain ⟨k, hk, rfl, rfl, HR⟩ := hrel
      obtain ⟨wo, rfl⟩ : ∃ wo : World, wo = wr := ⟨_, rfl⟩
      by_cases hlt : k < T.length
      · have i1 : (k : Int) < (T.length : Int) := by omega
        obtain ⟨a1, a2, a3⟩ := HA.out k hlt
        obtain ⟨f1, f2⟩ := flatT_get s T k hlt
        have r1 : wo.cell? ⟨g5, k * 2, none⟩ = _ := (World.ownsRow.cellAt (T5.out.later HR.out) (k * 2) (by omega)).trans f1
        have r2 : wo.cell? ⟨g5, k * 2 + 1, none⟩ = _ := (World.ownsRow.cellAt (T5.out.later HR.out) (k * 2 + 1) (by omega)).trans f2
        rw [a1] at r1
        rw [show (T.getD k (0, 0, false)).2.1 = endT T (k + 1) from rfl] at r1
        generalize (T.getD k (0, 0, false)).2.2 = tw at *
        obtain ⟨ea, hea⟩ : ∃ ea, ea = endT T k := ⟨_, rfl⟩
        obtain ⟨eb, heb⟩ : ∃ eb, eb = endT T (k + 1) := ⟨_, rfl⟩
        rw [← hea] at r1 a2 ⊢
        rw [← heb] at r1 a2 a3
        have HEB := Lib.hid heb
        have a4 : ea ≤ eb := by omega
        clear f1 f2 a1 hea heb a2
        go_wp2_with fail
        go_roundw
        case rel => exact ⟨k + 1, by omega, by go_num, by rw [← HEB.out], Lib.hid (below_alloc HR.out _)⟩
        case measure => simp [intOf]; omega
      · obtain rfl : k = T.length := by omega
        rw [HE.out, XS.out]
        have B6 := Lib.hid (B5.out.trans (HR.out.mono B5.out.size))
        have T6 := Lib.hid (T5.out.later HR.out)
        go_wp2_with fail
        refine (K2.out wo).mono ?_
        rintro e w8 ⟨v8, rfl, ht8, hb8⟩
        obtain ⟨g8, c8, rfl⟩ := ht8.some h0
        have EQ := Lib.hid (tokEq_some s T g5 g8 c5 c8 w.heap.size wo.heap.size w8 (by omega) (T6.out.later hb8) ht8)
        have B8 := Lib.hid (B6.out.trans (hb8.mono B6.out.size))
        clear ht8 hb8
        go_wp2_with fail
        refine EQ.out.mono ?_
        rintro e w9 ⟨rfl, q9, rfl⟩
        go_wp2_with fail
        go_ret
        exact ⟨rfl, below_drewN B8.out q9⟩
  · have hz : T.length = 0 := by omega
    have hz0 : s.size = 0 := by rw [← HE.out, hz]; rfl
    have HSN := Lib.hid (show s = ⟨#[]⟩ by rw [← XS.out, hz0, ext_nil])
    obtain ⟨a5, c5, rfl, _⟩ := T5.out.shape
    rw [hz]
    clear HA HE hz0
    go_wp2_with fail
    go_loopw [4, 13] (fun v4 i wr => i = .int .i64 0 ∧ v4 = .string ⟨#[]⟩ ∧ Hid (Below w5.heap.size w5 wr)) (fun _ _ _ => 0)
    case atStart => exact ⟨rfl, rfl, Lib.hid (Below.refl _ _)⟩
    case round =>
      obtain ⟨rfl, rfl, HR⟩ := hrel
      obtain ⟨wo, rfl⟩ : ∃ wo : World, wo = wr := ⟨_, rfl⟩
      have B6 := Lib.hid (B5.out.trans (HR.out.mono B5.out.size))
      go_wp2_with fail
      (with_reducible refine (K2.out wo).mono ?_)
      rintro e w8 ⟨v8, rfl, ht8, hb8⟩
      obtain ⟨a8, c8, rfl, _⟩ := ht8.shape
      rw [hz]
      have B8 := Lib.hid (B6.out.trans (hb8.mono B6.out.size))
      clear ht8 hb8
      go_wp2_with fail
      refine (tokEq_zero _ _ _ _ _).mono ?_
      rintro e w9 ⟨rfl, q9, rfl⟩
      rw [HSN.out]
      go_wp2_with fail
      go_ret
      exact ⟨rfl, below_drewN B8.out q9⟩

end Go.Proofs.YtmoplmjfnjgcaaaDoor
namespace Go.Proofs.YtmoplmjfnjgcaaaDoor
open Go.ChangeShapes Go.WideShapes Go.ChangeAt Go.RowKit Go.Joins
open Go.ChangeMaps (open_string shut_string)
set_option linter.unusedVariables false

theorem own : ownKnob Tryd.prog.godebug = none := by kernel_rfl
theorem laidOut : laidOutB Tryd.prog = true := by kernel_rfl
end Go.Proofs.YtmoplmjfnjgcaaaDoor
