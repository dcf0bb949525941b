/-
  A strings.Builder of the call's own: WriteByte and String; the reference's Printed.
-/
import Derived.Test.YtejhmobpepllcaaDoorBase
import Derived.Test.YtejhmobpepllcaaDoorAt
import Derived.Test.YtejhmobpepllcaaDoorShelf
import Derived.Lib.Builder
import Derived.Laws.Externs
namespace Go.Proofs.YtejhmobpepllcaaDoor
open Go.RowKit
set_option linter.unusedSimpArgs false
set_option linter.unusedVariables false

set_option maxHeartbeats 1000000 in
set_option maxRecDepth 100000 in
theorem copyCheck_used (b : Nat) (w : World) (h0 : w.cell? ⟨b, 0, none⟩ = some (.pointer (some ⟨b, 0, none⟩))) :
    Calls Tryd.prog 62 #[.pointer (some ⟨b, 0, none⟩)] w fun e w' => e = .returned (.tuple #[]) ∧ w' = w := by
  obtain ⟨j, hj, _⟩ : ∃ j, Tryd.prog.info? 64 = some j ∧ j.size = 2 := Option.map_eq_some_iff.1 (by kernel_rfl)
  go_enter Tryd.func62, Tryd.ntmps62
  go_wp2
  rw [Lib.run_neq_ptr_same w _ Tryd.underlying62 hj]
  go_wp2
  go_end0
  exact ⟨rfl, rfl⟩

set_option maxHeartbeats 1000000 in
set_option maxRecDepth 100000 in
theorem copyCheck_fresh (b : Nat) (w : World) (h0 : w.cell? ⟨b, 0, none⟩ = some (.pointer none)) (hsh : w.shape? b = some (64, 2)) (hfz : w.frozen? ⟨b, 0, none⟩ = false) :
    Calls Tryd.prog 62 #[.pointer (some ⟨b, 0, none⟩)] w fun e w' => e = .returned (.tuple #[]) ∧ w' = w.setCell ⟨b, 0, none⟩ (.pointer (some ⟨b, 0, none⟩)) := by
  obtain ⟨j, hj, hjs⟩ : ∃ j, Tryd.prog.info? 64 = some j ∧ j.size = 2 := Option.map_eq_some_iff.1 (by kernel_rfl)
  have hlies : liesAt Tryd.prog Tryd.prog.depth 64 (2 / Tryd.prog.cellsOf 64) 0 64 1 = true := by kernel_rfl
  go_enter Tryd.func62, Tryd.ntmps62
  go_wp2
  rw [Lib.run_to_unsafe w ⟨b, 0, none⟩ Tryd.underlying62 Tryd.underlying109 hj (by rw [hjs]; decide) hsh (Nat.zero_lt_succ 1)]
  simp only [Result.andThen]
  rw [Oper.upon_value]
  go_wp2
  rw [run_callFunc_extern Tryd.func84 (by kernel_rfl) (by kernel_rfl) (by kernel_rfl) (e := Extern.AbiNoEscape.same) (by kernel_rfl)]
  rw [Lib.run_noEscape]
  simp only [Result.andThen]
  rw [Oper.upon_value]
  go_wp2
  rw [Lib.run_from_unsafe w ⟨b, 0, none⟩ Tryd.underlying109 Tryd.underlying62 hj hsh hlies]
  simp only [Result.andThen]
  rw [Oper.upon_value]
  go_wp2
  go_end0
  exact ⟨rfl, rfl⟩

theorem copyCheck_any (B b : Nat) (bs : List Value) (w : World) (h : Lib.IsBuilder 64 5 B b bs w) :
    Calls Tryd.prog 62 #[.pointer (some ⟨b, 0, none⟩)] w fun e w' => e = .returned (.tuple #[]) ∧ Lib.BuilderAt 64 5 B b (.pointer (some ⟨b, 0, none⟩)) bs w' ∧ Below B w w' := by
  rcases h with h | h
  · refine (copyCheck_fresh b w h.cell0 h.shape h.frozen0).mono ?_
    rintro e w' ⟨rfl, rfl⟩
    exact ⟨rfl, h.used _, (Below.refl B w).setCell (p := ⟨b, 0, none⟩) h.1 _⟩
  · refine (copyCheck_used b w h.cell0).mono ?_
    rintro e w' ⟨rfl, rfl⟩
    exact ⟨rfl, h, Below.refl B _⟩

theorem infoByte : (Tryd.prog.info? 5).map (fun i => (i.zero, i.size, i.bytes)) = some (some (.int .u8 0), 1, 1) := by kernel_rfl

set_option maxHeartbeats 1000000 in
set_option maxRecDepth 100000 in
theorem writeByte_any (B b : Nat) (bs : List Value) (c : Int) (w : World) (h : Lib.IsBuilder 64 5 B b bs w) (hlen : bs.length + 1 ≤ 1000000000) (hBw : B ≤ w.heap.size) :
    Calls Tryd.prog 33 #[.pointer (some ⟨b, 0, none⟩), .int .u8 c] w fun e w' => e = .returned .nilIface ∧ Lib.IsBuilder 64 5 B b (bs ++ [.int .u8 c]) w' ∧ Below B w w' := by
  obtain ⟨i0, hi, hz0, hz1, hz2⟩ := info_parts infoByte
  have HH := Lib.hid h
  clear h
  go_enter Tryd.func33, Tryd.ntmps33
  go_wp2_with fail
  refine (copyCheck_any B b bs w HH.out).mono ?_
  rintro e w1 ⟨rfl, ⟨hB, v, hbk, hown, hne⟩, hb1⟩
  have c0 : w1.cell? ⟨b, 0, none⟩ = some (.pointer (some ⟨b, 0, none⟩)) := by rw [Lib.cell_of_heap hbk]; rfl
  have c1 : w1.cell? ⟨b, 1, none⟩ = some v := by rw [Lib.cell_of_heap hbk]; rfl
  go_wp2_with (at_builtin; refine wpList_append_own _ rfl _ _ 37 rfl B 5 i0 (.int .u8 0) 1 1 Tryd.underlying37 hi hz0 hz1 hz2 rfl (by decide) _ _ _ rfl (hown.alloc _) ⟨w1.heap.size, 0, none⟩ 1 1 [.int .u8 c] rfl rfl ?c1 ?c2 ?c3 ?c4 ?c5 ?_)
  case c1 => exact cell_one_new _ _ _
  case c2 => intro u hu; simp at hu; subst hu; rfl
  case c3 => unfold maxLen; omega
  case c4 => omega
  case c5 => have := hb1.size; simp; omega
  intro v' w2 hown' hgrow _
  have hlt : b < w1.heap.size := by
    rcases Nat.lt_or_ge b w1.heap.size with h' | h'
    · exact h'
    · simp [Array.getElem?_eq_none h'] at hbk
  have hb2 : w2.heap[b]? = some (.cells #[.pointer (some ⟨b, 0, none⟩), v] 64 (0, 0)) := by
    rw [hgrow.block b (by simp; omega) (fun e => hne e.symm), Lib.alloc_old w1 _ b hlt]
    exact hbk
  have d0 : w2.cell? ⟨b, 0, none⟩ = some (.pointer (some ⟨b, 0, none⟩)) := by rw [Lib.cell_of_heap hb2]; rfl
  have d1 : w2.cell? ⟨b, 1, none⟩ = some v := by rw [Lib.cell_of_heap hb2]; rfl
  have f1 : w2.frozen? ⟨b, 1, none⟩ = false := Lib.frozen_of_heap hb2 1
  obtain ⟨g, cap, rfl⟩ : ∃ g cap, v' = .slice (some ⟨g, 0, none⟩) (bs.length + 1) cap := by
    rcases hown'.2 with ⟨_, h0⟩ | ⟨g, cap, cur, hv, _⟩
    · omega
    · exact ⟨g, cap, hv⟩
  go_wp2
  go_ret
  refine ⟨rfl, .inr ?_, ?_⟩
  · exact Lib.BuilderAt.put (T := 64) (e := 5) hB hb2 (bs' := bs ++ [.int .u8 c]) (by simpa using hown') (by decide)
  · exact ((hb1.alloc (by have := hb1.size; omega) _).grown hgrow (by have := hb1.size; simp; omega) (fun k hk => (hown.lt k hk).1)).setCell (p := ⟨b, 1, none⟩) hB _

/-- What a page prints in row y: its first x letters. -/
def letter (q : Bool) : UInt8 := if q then 35 else 46
def rowText (W : Nat) (z : Nat → Bool) (y : Nat) : Nat → List UInt8
  | 0 => []
  | x + 1 => rowText W z y x ++ [letter (z (y * W + x))]
def pageText (W : Nat) (z : Nat → Bool) : Nat → List UInt8
  | 0 => []
  | y + 1 => pageText W z y ++ (rowText W z y W ++ [10])
theorem rowText_length (W : Nat) (z : Nat → Bool) (y x : Nat) : (rowText W z y x).length = x := by
  induction x with
  | zero => rfl
  | succ x ih => simp [rowText, ih]
theorem pageText_length (W : Nat) (z : Nat → Bool) (y : Nat) : (pageText W z y).length = y * (W + 1) := by
  induction y with
  | zero => simp [pageText]
  | succ y ih => simp [pageText, ih, rowText_length, Nat.add_mul]

theorem builder_later {T e : TypeId} {B b : Nat} {bs : List Value} {w w' : World} (h : Lib.IsBuilder T e B b bs w) (hb : Below w.heap.size w w') : Lib.IsBuilder T e B b bs w' := by
  rcases h with ⟨h1, v, h2, h3, h4⟩ | ⟨h1, v, h2, h3, h4⟩
  · exact .inl ⟨h1, v, (hb.block b (Array.getElem?_eq_some_iff.1 h2).1).trans h2, below_owns h3 hb, h4⟩
  · exact .inr ⟨h1, v, (hb.block b (Array.getElem?_eq_some_iff.1 h2).1).trans h2, below_owns h3 hb, h4⟩

set_option maxHeartbeats 2000000 in
set_option maxRecDepth 100000 in
theorem printed_any (W H g o c : Nat) (z : Nat → Bool) (w : World) (hW : W ≤ 200) (hH : H ≤ 200) (hp : ∀ j, j < W * H → w.cell? ⟨g, o + j, none⟩ = some (.bool (z j))) :
    Calls Tryd.prog 11 #[.agg #[.int .i64 W, .int .i64 H, .slice (some ⟨g, o, none⟩) (W * H) c]] w fun e w' => e = .returned (.string ⟨(pageText W z H).toArray⟩) ∧ Below w.heap.size w w' := by
  have HC := Lib.hid hp
  clear hp
  go_enter Tryd.func11, Tryd.ntmps11
  go_wp2_with fail
  obtain ⟨w1, hw1⟩ : ∃ w1, w1 = w.alloc (.cells #[.int .i64 W, .int .i64 H, .slice (some ⟨g, o, none⟩) (W * H) c] 24) := ⟨_, rfl⟩
  have B1 : Below w.heap.size w w1 := by rw [hw1]; exact new_below _ _
  obtain ⟨k0, k1, k2, _, _, _⟩ := block3 (w := w1) (b := w.heap.size) (x := .int .i64 W) (y := .int .i64 H) (z := .slice (some ⟨g, o, none⟩) (W * H) c) (t := 24) (by rw [hw1]; exact heap_alloc_new _ _)
  have hsz : w1.heap.size = w.heap.size + 1 := by rw [hw1]; simp
  rw [← hw1, ← hsz]
  clear hw1
  have HC1 := Lib.hid (fun j (hj : j < W * H) => cell_later B1 (HC.out j hj))
  have HB1 := Lib.hid B1
  have HSZ := Lib.hid hsz
  obtain ⟨w2, hw2⟩ : ∃ w2, w2 = w1.alloc (.cells #[.pointer none, .slice none 0 0] 64) := ⟨_, rfl⟩
  have B2 : Below w1.heap.size w1 w2 := by rw [hw2]; exact new_below _ _
  have I2 : Lib.IsBuilder 64 5 w1.heap.size w1.heap.size (Lib.byteCells (pageText W z 0)) w2 := by rw [hw2]; exact Lib.fresh_isBuilder _ _ _
  rw [← hw2]
  clear hw2 B1 hsz HC
  have HB2 := Lib.hid B2
  have HI2 := Lib.hid I2
  clear B2 I2
  go_loopw [8] (fun i wr => ∃ y : Nat, y ≤ H ∧ i = .int .i64 y ∧ Lib.IsBuilder 64 5 w1.heap.size w1.heap.size (Lib.byteCells (pageText W z y)) wr ∧ Below w1.heap.size w1 wr) (fun i _ => H - (intOf i).toNat)
  case atStart => exact ⟨0, Nat.zero_le _, rfl, HI2.out, HB2.out⟩
  case round =>
    obtain ⟨y, hy, rfl, hI, hb⟩ := hrel
    have c0 := cell_later hb k0
    have c1 := cell_later hb k1
    have HI := Lib.hid hI
    have HB := Lib.hid hb
    clear hI hb
    by_cases hlt : y < H
    · obtain ⟨wo, rfl⟩ : ∃ wo : World, wo = wr := ⟨_, rfl⟩
      have hyW := Nat.mul_le_mul (show y ≤ 200 by omega) (show W + 1 ≤ 201 by omega)
      go_wp2_with fail
      go_loopw [13] (fun i wr => ∃ x : Nat, x ≤ W ∧ i = .int .i64 x ∧ Lib.IsBuilder 64 5 w1.heap.size w1.heap.size (Lib.byteCells (pageText W z y ++ rowText W z y x)) wr ∧ Below w1.heap.size w1 wr) (fun i _ => W - (intOf i).toNat)
      case atStart => exact ⟨0, Nat.zero_le _, rfl, by simpa [rowText] using HI.out, HB.out⟩
      case round =>
        obtain ⟨x, hx, rfl, hIr, hbr⟩ := hrel
        have d0 := cell_later hbr k0
        have d1 := cell_later hbr k1
        have d2 := cell_later hbr k2
        have HIR := Lib.hid hIr
        have HBR := Lib.hid hbr
        clear hIr hbr
        by_cases hltx : x < W
        · have hfit := row_fits hlt (show x + 1 ≤ W by omega)
          have hcell := cell_later HBR.out (HC1.out (y * W + x) (by omega))
          have hlen : (Lib.byteCells (pageText W z y ++ rowText W z y x)).length + 1 ≤ 1000000000 := by simp [Lib.byteCells, pageText_length, rowText_length]; omega
          have hnext : Lib.byteCells (pageText W z y ++ rowText W z y (x + 1)) = Lib.byteCells (pageText W z y ++ rowText W z y x) ++ [.int .u8 ((letter (z (y * W + x))).toNat : Int)] := by simp [Lib.byteCells, rowText]
          obtain ⟨q, hq⟩ : ∃ q, q = z (y * W + x) := ⟨_, rfl⟩
          rw [← hq] at hcell hnext
          have HN := Lib.hid hnext
          have HL := Lib.hid hlen
          have HCELL := Lib.hid hcell
          clear hfit hnext hlen hq hcell
          go_wp2_with fail
          refine (at_in W H g o c x y q wr (by omega) (by omega) hltx hlt HCELL.out).mono ?_
          rintro e w3 ⟨rfl, hb3⟩
          have I3 := Lib.hid (builder_later HIR.out hb3)
          have HB3 := Lib.hid (below_step HBR.out hb3)
          clear hb3
          cases q
          · go_wp2_with fail
            refine (writeByte_any w1.heap.size w1.heap.size _ _ w3 I3.out HL.out HB3.out.size).mono ?_
            rintro e w4 ⟨rfl, hI4, hb4⟩
            have I4 := Lib.hid hI4
            have HB4 := Lib.hid (HB3.out.trans hb4)
            clear hI4 hb4
            go_wp2_with fail
            go_roundw
            case rel => exact ⟨x + 1, by omega, by go_num, by rw [HN.out]; exact I4.out, HB4.out⟩
            case measure => simp [intOf]; omega
          · go_wp2_with fail
            refine (writeByte_any w1.heap.size w1.heap.size _ _ w3 I3.out HL.out HB3.out.size).mono ?_
            rintro e w4 ⟨rfl, hI4, hb4⟩
            have I4 := Lib.hid hI4
            have HB4 := Lib.hid (HB3.out.trans hb4)
            clear hI4 hb4
            go_wp2_with fail
            go_roundw
            case rel => exact ⟨x + 1, by omega, by go_num, by rw [HN.out]; exact I4.out, HB4.out⟩
            case measure => simp [intOf]; omega
        · have hxe := Lib.hid (show x = W by omega)
          have hlen : (Lib.byteCells (pageText W z y ++ rowText W z y x)).length + 1 ≤ 1000000000 := by simp [Lib.byteCells, pageText_length, rowText_length]; omega
          have HL := Lib.hid hlen
          clear hlen
          go_wp2_with fail
          refine (writeByte_any w1.heap.size w1.heap.size _ _ wr HIR.out HL.out HBR.out.size).mono ?_
          rintro e w4 ⟨rfl, hI4, hb4⟩
          have I4 := Lib.hid hI4
          have HB4 := Lib.hid (HBR.out.trans hb4)
          clear hI4 hb4
          go_wp2_with fail
          go_roundw
          case rel => exact ⟨y + 1, by omega, by go_num, by have h := I4.out; rw [hxe.out] at h; simpa [pageText, Lib.byteCells] using h, HB4.out⟩
          case measure => simp [intOf]; omega
    · have hye := Lib.hid (show y = H by omega)
      go_wp2_with fail
      refine (Tryd.Builder_String_any w1.heap.size w1.heap.size (pageText W z y) wr HI.out HB.out.size).mono ?_
      rintro e w4 ⟨rfl, hb4⟩
      go_wp2_with fail
      go_ret
      exact ⟨by rw [hye.out]; rfl, HB1.out.trans ((HB.out.trans hb4).mono HB1.out.size)⟩

end Go.Proofs.YtejhmobpepllcaaDoor
