/-
  What pagesPrint_holds leans on: contracts of the functions that it calls.
-/
import Derived.Test.YtofcojcfcpfdmaaDoorRows
import Derived.WalkKit
import Derived.WalkSpells
import Derived.WalkLawsBesides
import Derived.Lib.Hide
import Derived.Deep.RegionHeld3
import Derived.Shelf.Abstract
import Derived.Shelf.Strings.Builder1
import Derived.Shelf.Strings.Search1
import Derived.Shelf.Strings.Search2
import Derived.Shelf.Strings.SlTrimAscii
import Derived.Test.YtofcojcfcpfdmaaDoorProg
import Derived.Lib.IndexLaws
import Derived.Lib.IndexBytes
import Derived.Lib.SlTrimSet
import Derived.Deep.QuietTactic
import Derived.BigQuiet
import Derived.Laws.EntriesVeiled
import Derived.Lib.OthersKept
import Derived.Deep.RegionLaw
import Derived.Deep.AppendLies
import Derived.Deep.DrawnRows
import Derived.RegionTactic
import Derived.ChangeAlike
import Derived.BigRegion
import Derived.Laws.RangeAny
import Derived.Lib.Builder
import Derived.Laws.Externs
import Derived.Laws.BytesArg
import Derived.ProofKit
import Derived.OpenShut
import Derived.ShutString
import Derived.ChangeOld
import Derived.Lib.SmallJoins
import Derived.Deep.Grids
import Derived.Test.YtofcojcfcpfdmaaDoorCPrint2
namespace Go.Proofs.YtofcojcfcpfdmaaDoor
open Go.RowKit
set_option linter.unusedSimpArgs false
set_option linter.unusedVariables false

set_option maxHeartbeats 1000000 in
set_option maxRecDepth 100000 in
theorem copyCheck_used (b : Nat) (w : World) (h0 : w.cell? ⟨b, 0, none⟩ = some (.pointer (some ⟨b, 0, none⟩))) :
    Calls Tryd.prog 62 #[.pointer (some ⟨b, 0, none⟩)] w fun e w' => e = .returned (.tuple #[]) ∧ w' = w := by
  obtain ⟨j, hj, _⟩ : ∃ j, Tryd.prog.info? 64 = some j ∧ j.size = 2 := Option.map_eq_some_iff.1 (by kernel_rfl)
  go_enter Tryd.func62, Tryd.ntmps62
  go_wp2
  rw [Lib.run_neq_ptr_same w _ Tryd.underlying62 hj]
  go_wp2
  go_end0
  exact ⟨rfl, rfl⟩

set_option maxHeartbeats 1000000 in
set_option maxRecDepth 100000 in
theorem copyCheck_fresh (b : Nat) (w : World) (h0 : w.cell? ⟨b, 0, none⟩ = some (.pointer none)) (hsh : w.shape? b = some (64, 2)) (hfz : w.frozen? ⟨b, 0, none⟩ = false) :
    Calls Tryd.prog 62 #[.pointer (some ⟨b, 0, none⟩)] w fun e w' => e = .returned (.tuple #[]) ∧ w' = w.setCell ⟨b, 0, none⟩ (.pointer (some ⟨b, 0, none⟩)) := by
  obtain ⟨j, hj, hjs⟩ : ∃ j, Tryd.prog.info? 64 = some j ∧ j.size = 2 := Option.map_eq_some_iff.1 (by kernel_rfl)
  have hlies : liesAt Tryd.prog Tryd.prog.depth 64 (2 / Tryd.prog.cellsOf 64) 0 64 1 = true := by kernel_rfl
  go_enter Tryd.func62, Tryd.ntmps62
  go_wp2
  rw [Lib.run_to_unsafe w ⟨b, 0, none⟩ Tryd.underlying62 Tryd.underlying112 hj (by rw [hjs]; decide) hsh (Nat.zero_lt_succ 1)]
  simp only [Result.andThen]
  rw [Oper.upon_value]
  go_wp2
  rw [run_callFunc_extern Tryd.func83 (by kernel_rfl) (by kernel_rfl) (by kernel_rfl) (e := Extern.AbiNoEscape.same) (by kernel_rfl)]
  rw [Lib.run_noEscape]
  simp only [Result.andThen]
  rw [Oper.upon_value]
  go_wp2
  rw [Lib.run_from_unsafe w ⟨b, 0, none⟩ Tryd.underlying112 Tryd.underlying62 hj hsh hlies]
  simp only [Result.andThen]
  rw [Oper.upon_value]
  go_wp2
  go_end0
  exact ⟨rfl, rfl⟩

theorem copyCheck_any (B b : Nat) (bs : List Value) (w : World) (h : Lib.IsBuilder 64 5 B b bs w) :
    Calls Tryd.prog 62 #[.pointer (some ⟨b, 0, none⟩)] w fun e w' => e = .returned (.tuple #[]) ∧ Lib.BuilderAt 64 5 B b (.pointer (some ⟨b, 0, none⟩)) bs w' ∧ Below B w w' := by
  rcases h with h | h
  · refine (copyCheck_fresh b w h.cell0 h.shape h.frozen0).mono ?_
    rintro e w' ⟨rfl, rfl⟩
    exact ⟨rfl, h.used _, (Below.refl B w).setCell (p := ⟨b, 0, none⟩) h.1 _⟩
  · refine (copyCheck_used b w h.cell0).mono ?_
    rintro e w' ⟨rfl, rfl⟩
    exact ⟨rfl, h, Below.refl B _⟩

theorem infoByte : (Tryd.prog.info? 5).map (fun i => (i.zero, i.size, i.bytes)) = some (some (.int .u8 0), 1, 1) := by kernel_rfl

set_option maxHeartbeats 1000000 in
set_option maxRecDepth 100000 in
theorem writeByte_any (B b : Nat) (bs : List Value) (c : Int) (w : World) (h : Lib.IsBuilder 64 5 B b bs w) (hlen : bs.length + 1 ≤ 1000000000) (hBw : B ≤ w.heap.size) :
    Calls Tryd.prog 33 #[.pointer (some ⟨b, 0, none⟩), .int .u8 c] w fun e w' => e = .returned .nilIface ∧ Lib.IsBuilder 64 5 B b (bs ++ [.int .u8 c]) w' ∧ Below B w w' := by
  obtain ⟨i0, hi, hz0, hz1, hz2⟩ := info_parts infoByte
  have HH := Lib.hid h
  clear h
  go_enter Tryd.func33, Tryd.ntmps33
  go_wp2_with fail
  refine (copyCheck_any B b bs w HH.out).mono ?_
  rintro e w1 ⟨rfl, ⟨hB, v, hbk, hown, hne⟩, hb1⟩
  have c0 : w1.cell? ⟨b, 0, none⟩ = some (.pointer (some ⟨b, 0, none⟩)) := by rw [Lib.cell_of_heap hbk]; rfl
  have c1 : w1.cell? ⟨b, 1, none⟩ = some v := by rw [Lib.cell_of_heap hbk]; rfl
  go_wp2_with (at_builtin; refine wpList_append_own _ rfl _ _ 37 rfl B 5 i0 (.int .u8 0) 1 1 Tryd.underlying37 hi hz0 hz1 hz2 rfl (by decide) _ _ _ rfl (hown.alloc _) ⟨w1.heap.size, 0, none⟩ 1 1 [.int .u8 c] rfl rfl ?c1 ?c2 ?c3 ?c4 ?c5 ?_)
  case c1 => exact cell_one_new _ _ _
  case c2 => intro u hu; simp at hu; subst hu; rfl
  case c3 => unfold maxLen; omega
  case c4 => omega
  case c5 => have := hb1.size; simp; omega
  intro v' w2 hown' hgrow _
  have hlt : b < w1.heap.size := by
    rcases Nat.lt_or_ge b w1.heap.size with h' | h'
    · exact h'
    · simp [Array.getElem?_eq_none h'] at hbk
  have hb2 : w2.heap[b]? = some (.cells #[.pointer (some ⟨b, 0, none⟩), v] 64 (0, 0)) := by
    rw [hgrow.block b (by simp; omega) (fun e => hne e.symm), Lib.alloc_old w1 _ b hlt]
    exact hbk
  have d0 : w2.cell? ⟨b, 0, none⟩ = some (.pointer (some ⟨b, 0, none⟩)) := by rw [Lib.cell_of_heap hb2]; rfl
  have d1 : w2.cell? ⟨b, 1, none⟩ = some v := by rw [Lib.cell_of_heap hb2]; rfl
  have f1 : w2.frozen? ⟨b, 1, none⟩ = false := Lib.frozen_of_heap hb2 1
  obtain ⟨g, cap, rfl⟩ : ∃ g cap, v' = .slice (some ⟨g, 0, none⟩) (bs.length + 1) cap := by
    rcases hown'.2 with ⟨_, h0⟩ | ⟨g, cap, cur, hv, _⟩
    · omega
    · exact ⟨g, cap, hv⟩
  go_wp2
  go_ret
  refine ⟨rfl, .inr ?_, ?_⟩
  · exact Lib.BuilderAt.put (T := 64) (e := 5) hB hb2 (bs' := bs ++ [.int .u8 c]) (by simpa using hown') (by decide)
  · exact ((hb1.alloc (by have := hb1.size; omega) _).grown hgrow (by have := hb1.size; simp; omega) (fun k hk => (hown.lt k hk).1)).setCell (p := ⟨b, 1, none⟩) hB _

/-- What a page prints in row y: its first x letters. -/
def letter (q : Bool) : UInt8 := if q then 35 else 46
def rowText (W : Nat) (z : Nat → Bool) (y : Nat) : Nat → List UInt8
  | 0 => []
  | x + 1 => rowText W z y x ++ [letter (z (y * W + x))]
def pageText (W : Nat) (z : Nat → Bool) : Nat → List UInt8
  | 0 => []
  | y + 1 => pageText W z y ++ (rowText W z y W ++ [10])
theorem rowText_length (W : Nat) (z : Nat → Bool) (y x : Nat) : (rowText W z y x).length = x := by
  induction x with
  | zero => rfl
  | succ x ih => simp [rowText, ih]
theorem pageText_length (W : Nat) (z : Nat → Bool) (y : Nat) : (pageText W z y).length = y * (W + 1) := by
  induction y with
  | zero => simp [pageText]
  | succ y ih => simp [pageText, ih, rowText_length, Nat.add_mul]

theorem builder_later {T e : TypeId} {B b : Nat} {bs : List Value} {w w' : World} (h : Lib.IsBuilder T e B b bs w) (hb : Below w.heap.size w w') : Lib.IsBuilder T e B b bs w' := by
  rcases h with ⟨h1, v, h2, h3, h4⟩ | ⟨h1, v, h2, h3, h4⟩
  · exact .inl ⟨h1, v, (hb.block b (Array.getElem?_eq_some_iff.1 h2).1).trans h2, below_owns h3 hb, h4⟩
  · exact .inr ⟨h1, v, (hb.block b (Array.getElem?_eq_some_iff.1 h2).1).trans h2, below_owns h3 hb, h4⟩

set_option maxHeartbeats 2000000 in
set_option maxRecDepth 100000 in
theorem printed_any (W H g o c : Nat) (z : Nat → Bool) (w : World) (hW : W ≤ 200) (hH : H ≤ 200) (hp : ∀ j, j < W * H → w.cell? ⟨g, o + j, none⟩ = some (.bool (z j))) :
    Calls Tryd.prog 11 #[.agg #[.int .i64 W, .int .i64 H, .slice (some ⟨g, o, none⟩) (W * H) c]] w fun e w' => e = .returned (.string ⟨(pageText W z H).toArray⟩) ∧ Below w.heap.size w w' := by
  have HC := Lib.hid hp
  clear hp
  go_enter Tryd.func11, Tryd.ntmps11
  go_wp2_with fail
  obtain ⟨w1, hw1⟩ : ∃ w1, w1 = w.alloc (.cells #[.int .i64 W, .int .i64 H, .slice (some ⟨g, o, none⟩) (W * H) c] 24) := ⟨_, rfl⟩
  have B1 : Below w.heap.size w w1 := by rw [hw1]; exact new_below _ _
  obtain ⟨k0, k1, k2, _, _, _⟩ := block3 (w := w1) (b := w.heap.size) (x := .int .i64 W) (y := .int .i64 H) (z := .slice (some ⟨g, o, none⟩) (W * H) c) (t := 24) (by rw [hw1]; exact heap_alloc_new _ _)
  have hsz : w1.heap.size = w.heap.size + 1 := by rw [hw1]; simp
  rw [← hw1, ← hsz]
  clear hw1
  have HC1 := Lib.hid (fun j (hj : j < W * H) => cell_later B1 (HC.out j hj))
  have HB1 := Lib.hid B1
  have HSZ := Lib.hid hsz
  obtain ⟨w2, hw2⟩ : ∃ w2, w2 = w1.alloc (.cells #[.pointer none, .slice none 0 0] 64) := ⟨_, rfl⟩
  have B2 : Below w1.heap.size w1 w2 := by rw [hw2]; exact new_below _ _
  have I2 : Lib.IsBuilder 64 5 w1.heap.size w1.heap.size (Lib.byteCells (pageText W z 0)) w2 := by rw [hw2]; exact Lib.fresh_isBuilder _ _ _
  rw [← hw2]
  clear hw2 B1 hsz HC
  have HB2 := Lib.hid B2
  have HI2 := Lib.hid I2
  clear B2 I2
  go_loopw [8] (fun i wr => ∃ y : Nat, y ≤ H ∧ i = .int .i64 y ∧ Lib.IsBuilder 64 5 w1.heap.size w1.heap.size (Lib.byteCells (pageText W z y)) wr ∧ Below w1.heap.size w1 wr) (fun i _ => H - (intOf i).toNat)
  case atStart => exact ⟨0, Nat.zero_le _, rfl, HI2.out, HB2.out⟩
  case round =>
    obtain ⟨y, hy, rfl, hI, hb⟩ := hrel
    have c0 := cell_later hb k0
    have c1 := cell_later hb k1
    have HI := Lib.hid hI
    have HB := Lib.hid hb
    clear hI hb
    by_cases hlt : y < H
    · obtain ⟨wo, rfl⟩ : ∃ wo : World, wo = wr := ⟨_, rfl⟩
      have hyW := Nat.mul_le_mul (show y ≤ 200 by omega) (show W + 1 ≤ 201 by omega)
      go_wp2_with fail
      go_loopw [13] (fun i wr => ∃ x : Nat, x ≤ W ∧ i = .int .i64 x ∧ Lib.IsBuilder 64 5 w1.heap.size w1.heap.size (Lib.byteCells (pageText W z y ++ rowText W z y x)) wr ∧ Below w1.heap.size w1 wr) (fun i _ => W - (intOf i).toNat)
      case atStart => exact ⟨0, Nat.zero_le _, rfl, by simpa [rowText] using HI.out, HB.out⟩
      case round =>
        obtain ⟨x, hx, rfl, hIr, hbr⟩ := hrel
        have d0 := cell_later hbr k0
        have d1 := cell_later hbr k1
        have d2 := cell_later hbr k2
        have HIR := Lib.hid hIr
        have HBR := Lib.hid hbr
        clear hIr hbr
        by_cases hltx : x < W
        · have hfit := row_fits hlt (show x + 1 ≤ W by omega)
          have hcell := cell_later HBR.out (HC1.out (y * W + x) (by omega))
          have hlen : (Lib.byteCells (pageText W z y ++ rowText W z y x)).length + 1 ≤ 1000000000 := by simp [Lib.byteCells, pageText_length, rowText_length]; omega
          have hnext : Lib.byteCells (pageText W z y ++ rowText W z y (x + 1)) = Lib.byteCells (pageText W z y ++ rowText W z y x) ++ [.int .u8 ((letter (z (y * W + x))).toNat : Int)] := by simp [Lib.byteCells, rowText]
          obtain ⟨q, hq⟩ : ∃ q, q = z (y * W + x) := ⟨_, rfl⟩
          rw [← hq] at hcell hnext
          have HN := Lib.hid hnext
          have HL := Lib.hid hlen
          have HCELL := Lib.hid hcell
          clear hfit hnext hlen hq hcell
          go_wp2_with fail
          refine (at_in W H g o c x y q wr (by omega) (by omega) hltx hlt HCELL.out).mono ?_
          rintro e w3 ⟨rfl, hb3⟩
          have I3 := Lib.hid (builder_later HIR.out hb3)
          have HB3 := Lib.hid (below_step HBR.out hb3)
          clear hb3
          cases q
          · go_wp2_with fail
            refine (writeByte_any w1.heap.size w1.heap.size _ _ w3 I3.out HL.out HB3.out.size).mono ?_
            rintro e w4 ⟨rfl, hI4, hb4⟩
            have I4 := Lib.hid hI4
            have HB4 := Lib.hid (HB3.out.trans hb4)
            clear hI4 hb4
            go_wp2_with fail
            go_roundw
            case rel => exact ⟨x + 1, by omega, by go_num, by rw [HN.out]; exact I4.out, HB4.out⟩
            case measure => simp [intOf]; omega
          · go_wp2_with fail
            refine (writeByte_any w1.heap.size w1.heap.size _ _ w3 I3.out HL.out HB3.out.size).mono ?_
            rintro e w4 ⟨rfl, hI4, hb4⟩
            have I4 := Lib.hid hI4
            have HB4 := Lib.hid (HB3.out.trans hb4)
            clear hI4 hb4
            go_wp2_with fail
            go_roundw
            case rel => exact ⟨x + 1, by omega, by go_num, by rw [HN.out]; exact I4.out, HB4.out⟩
            case measure => simp [intOf]; omega
        · have hxe := Lib.hid (show x = W by omega)
          have hlen : (Lib.byteCells (pageText W z y ++ rowText W z y x)).length + 1 ≤ 1000000000 := by simp [Lib.byteCells, pageText_length, rowText_length]; omega
          have HL := Lib.hid hlen
          clear hlen
          go_wp2_with fail
          refine (writeByte_any w1.heap.size w1.heap.size _ _ wr HIR.out HL.out HBR.out.size).mono ?_
          rintro e w4 ⟨rfl, hI4, hb4⟩
          have I4 := Lib.hid hI4
          have HB4 := Lib.hid (HBR.out.trans hb4)
          clear hI4 hb4
          go_wp2_with fail
          go_roundw
          case rel => exact ⟨y + 1, by omega, by go_num, by have h := I4.out; rw [hxe.out] at h; simpa [pageText, Lib.byteCells] using h, HB4.out⟩
          case measure => simp [intOf]; omega
    · have hye := Lib.hid (show y = H by omega)
      go_wp2_with fail
      refine (Tryd.Builder_String_any w1.heap.size w1.heap.size (pageText W z y) wr HI.out HB.out.size).mono ?_
      rintro e w4 ⟨rfl, hb4⟩
      go_wp2_with fail
      go_ret
      exact ⟨by rw [hye.out]; rfl, HB1.out.trans ((HB.out.trans hb4).mono HB1.out.size)⟩

end Go.Proofs.YtofcojcfcpfdmaaDoor
namespace Go.Proofs.YtofcojcfcpfdmaaDoor
open Go.RowKit
set_option linter.unusedSimpArgs false
set_option linter.unusedVariables false

theorem info_byte : (Tryd.prog.info? 5).map (fun i => (i.zero, i.size, i.bytes)) = some (some (.int .u8 0), 1, 1) := by kernel_rfl

set_option maxHeartbeats 800000 in
set_option maxRecDepth 100000 in
theorem fillByte_any (w h g : Nat) (capt : Array Value) (f : Nat → Nat → Int) (W0 : World) (hw : 1 ≤ w) (hw' : w ≤ 10000000) (hh : h ≤ 10000000) (hN : w * h ≤ 10000000)
    (eg : ∀ (args : Array Value) (W : World), (callFunc g args).run Tryd.prog W = .ok (.enter g args) W)
    (hc : ∀ (x y : Nat) (W : World), x < w → y < h → Below W0.heap.size W0 W → Calls Tryd.prog g (#[.int .i64 x, .int .i64 y] ++ capt) W fun e W' => e = .returned (.int .u8 (f x y)) ∧ Below W.heap.size W W') :
    Calls Tryd.prog 23 #[.int .i64 w, .int .i64 h, .func (.func g) #[] capt] W0 fun e W' =>
      ∃ v, e = .returned v ∧ W'.ownsRow W0.heap.size 5 1 v (w * h) ((places w f (w * h)).map (Value.int .u8)) ∧ Below W0.heap.size W0 W' := by
  obtain ⟨i0, hi, hz0, hz1, hz2⟩ := info_parts info_byte
  have m0 : (0 : Int) ≤ (w : Int) * (h : Int) := Int.mul_nonneg (by omega) (by omega)
  have m1 : (w : Int) * (h : Int) ≤ 10000000 := by rw [← Int.natCast_mul]; omega
  have HC := Lib.hid hc
  clear hc
  go_enter Tryd.func23, Tryd.ntmps23
  go_wp2_with (at_make; refine wpList_make_own _ rfl _ _ 37 rfl W0.heap.size 5 i0 (.int .u8 0) 1 Tryd.underlying37 hi hz0 hz1 _ _ _ (w * h) rfl rfl (by rw [Int.natCast_mul]) (by rw [hz2]; omega) (by unfold maxLen; omega) (Nat.le_refl _) ?_)
  intro w1 hown1 hgrow1
  have hb1 : Below W0.heap.size W0 w1 := (Below.refl _ _).grown hgrow1 (Nat.le_refl _) (by simp)
  clear hgrow1
  go_wp2
  go_loopw [7, 15] (fun v i wr => ∃ y : Nat, y ≤ h ∧ i = .int .i64 y ∧ wr.ownsRow W0.heap.size 5 1 v (y * w) ((places w f (y * w)).map (Value.int .u8)) ∧ Below W0.heap.size W0 wr) (fun _ i _ => h - (intOf i).toNat)
  case atStart => exact ⟨0, Nat.zero_le _, rfl, by simpa [places] using hown1, hb1⟩
  case round =>
    obtain ⟨y, hy, rfl, hown, hb⟩ := hrel
    clear hown1 hb1
    by_cases hlt : y < h
    · obtain ⟨wo, rfl⟩ : ∃ wo : World, wo = wr := ⟨_, rfl⟩
      go_wp2
      go_loopw [7, 19] (fun v i wr => ∃ x : Nat, x ≤ w ∧ i = .int .i64 x ∧ wr.ownsRow W0.heap.size 5 1 v (y * w + x) ((places w f (y * w + x)).map (Value.int .u8)) ∧ Below W0.heap.size W0 wr) (fun _ i _ => w - (intOf i).toNat)
      case atStart => exact ⟨0, Nat.zero_le _, rfl, by simpa using hown, hb⟩
      case round =>
        obtain ⟨x, hx, rfl, hownr, hbr⟩ := hrel
        clear hown hb
        by_cases hltx : x < w
        · have HC' := HC.out x y
          have hfit := row_fits hlt (show x + 1 ≤ w by omega)
          go_wp2_with (first | (go_at_fn g; refine (HC' _ hltx hlt hbr).mono ?_; rintro e w' ⟨rfl, hb'⟩; have hown' := below_owns hownr hb') | (at_builtin; refine wpList_append_own _ rfl _ _ 37 rfl W0.heap.size 5 i0 (.int .u8 0) 1 1 Tryd.underlying37 hi hz0 hz1 hz2 rfl (by decide) _ _ _ rfl (hown'.alloc _) ⟨w'.heap.size, 0, none⟩ 1 1 [.int .u8 (f x y)] rfl rfl ?c1 ?c2 ?c3 ?c4 ?c5 ?_))
          case c1 => exact cell_one_new _ _ _
          case c2 => intro u hu; simp at hu; subst hu; rfl
          case c3 => unfold maxLen; omega
          case c4 => omega
          case c5 => have h1 := hbr.size; have h2 := hb'.size; simp; omega
          · intro v' w2 hown2 hgr2 _
            have hb2 : Below W0.heap.size W0 w2 := (((hbr.trans (hb'.mono hbr.size))).alloc (Nat.le_trans hbr.size hb'.size) _).grown hgr2 (by have h1 := hbr.size; have h2 := hb'.size; simp; omega) (fun k hk => (hown'.lt k hk).1)
            have hp := Lib.hid (places_succ w f x y hltx)
            clear hgr2 hown' hownr hbr hb' HC'
            go_wp2
            go_roundw
            case rel => exact ⟨x + 1, by omega, by go_num, by rw [← Nat.add_assoc, hp.out, List.map_append]; exact hown2, hb2⟩
            case measure => simp [intOf]; omega
        · have hxe := Lib.hid (show x = w by omega)
          go_wp2
          go_roundw
          case rel => exact ⟨y + 1, by omega, by go_num, by rw [show (y + 1) * w = y * w + x by rw [hxe.out, Nat.add_mul, Nat.one_mul]]; exact hownr, hbr⟩
          case measure => simp [intOf]; omega
    · have hye := Lib.hid (show y = h by omega)
      go_wp2
      go_ret
      exact ⟨_, rfl, by rw [Nat.mul_comm w h, ← hye.out]; exact hown, hb⟩

end Go.Proofs.YtofcojcfcpfdmaaDoor
namespace Go.Proofs.YtofcojcfcpfdmaaDoor
open Go.RowKit
set_option linter.unusedSimpArgs false
set_option linter.unusedVariables false

/-- The letter of a printed page at (x, y); column W has the ends of the lines. -/
def letterAt (W : Nat) (z : Nat → Bool) (x y : Nat) : UInt8 := if x = W then 10 else letter (z (y * W + x))
theorem text_row (W : Nat) (z : Nat → Bool) (y x : Nat) (hx : x ≤ W) (h : pageText W z y = places (W + 1) (letterAt W z) (y * (W + 1))) :
    pageText W z y ++ rowText W z y x = places (W + 1) (letterAt W z) (y * (W + 1) + x) := by
  induction x with
  | zero => simp [rowText, h]
  | succ x ih =>
    rw [rowText, ← List.append_assoc, ih (by omega), ← Nat.add_assoc, places_succ (W + 1) _ x y (by omega)]
    congr 2
    unfold letterAt
    rw [if_neg (by omega)]
theorem text_places (W : Nat) (z : Nat → Bool) (y : Nat) : pageText W z y = places (W + 1) (letterAt W z) (y * (W + 1)) := by
  induction y with
  | zero => simp [pageText, places]
  | succ y ih =>
    rw [pageText, ← List.append_assoc, text_row W z y W (Nat.le_refl _) ih, show (y + 1) * (W + 1) = y * (W + 1) + W + 1 by rw [Nat.add_mul, Nat.one_mul, Nat.add_assoc], places_succ (W + 1) _ W y (by omega)]
    congr 2
    unfold letterAt
    rw [if_pos rfl]
theorem nums_text (W H : Nat) (z : Nat → Bool) : strOfNums (places (W + 1) (fun x y => ((letterAt W z x y).toNat : Int)) ((W + 1) * H)) = ⟨(pageText W z H).toArray⟩ := by
  unfold strOfNums
  rw [text_places, Nat.mul_comm (W + 1) H]
  simp [places, List.map_map, Function.comp_def]

theorem print_badPage (a b : Int) (p : Option Addr) (n c : Nat) (w : World) (h : pageErr a b n ≠ 0) :
    Calls Tryd.prog 5 #[.agg #[.int .i64 a, .int .i64 b, .slice p n c]] w fun e w' => e = .returned (.tuple #[.string ⟨#[]⟩, .int .i64 (pageErr a b n)]) ∧ Below w.heap.size w w' := by
  have h' : (pageErr a b n != 0) = true := by simpa using h
  clear h
  go_enter Tryd.func5, Tryd.ntmps5
  go_wp2_with ((go_at_call 22; refine (checkBits_any _ _ _ _ _ _).mono ?_; rintro e w' ⟨rfl, rfl⟩))
  go_ret2
  exact ⟨rfl, below_alloc (new_below _ _) _⟩

theorem print_large (a b : Int) (p : Option Addr) (n c : Nat) (w : World) (h : pageErr a b n = 0) (hl : 200 < a ∨ 200 < b) :
    Calls Tryd.prog 5 #[.agg #[.int .i64 a, .int .i64 b, .slice p n c]] w fun e w' => e = .returned (.tuple #[.string ⟨#[]⟩, .int .i64 4]) ∧ Below w.heap.size w w' := by
  by_cases h1 : 200 < a
  · clear hl
    go_enter Tryd.func5, Tryd.ntmps5
    go_wp2_with ((go_at_call 22; refine (checkBits_any _ _ _ _ _ _).mono ?_; rintro e w' ⟨rfl, rfl⟩))
    go_ret2
    exact ⟨rfl, below_alloc (new_below _ _) _⟩
  · have h2 : 200 < b := by omega
    have h3 : a ≤ 200 := by omega
    clear hl h1
    go_enter Tryd.func5, Tryd.ntmps5
    go_wp2_with ((go_at_call 22; refine (checkBits_any _ _ _ _ _ _).mono ?_; rintro e w' ⟨rfl, rfl⟩))
    go_ret2
    exact ⟨rfl, below_alloc (new_below _ _) _⟩

set_option maxHeartbeats 400000 in
set_option maxRecDepth 100000 in
theorem print1_any (W H x y gb pb po c : Nat) (z : Nat → Bool) (w : World) (hW : W ≤ 200) (hH : H ≤ 200) (hx : x < W + 1) (hy : y < H)
    (h0 : w.cell? ⟨gb, 0, none⟩ = some (.int .i64 W)) (h2 : w.cell? ⟨gb, 2, none⟩ = some (.slice (some ⟨pb, po, none⟩) (W * H) c)) (hp : ∀ j, j < W * H → w.cell? ⟨pb, po + j, none⟩ = some (.bool (z j))) :
    Calls Tryd.prog 24 #[.int .i64 x, .int .i64 y, .pointer (some ⟨gb, 0, none⟩)] w fun e w' => e = .returned (.int .u8 ((letterAt W z x y).toNat : Int)) ∧ Below w.heap.size w w' := by
  by_cases hxw : x = W
  · subst hxw
    have hl : letterAt x z x y = 10 := if_pos rfl
    have HL := Lib.hid hl
    clear hl hp
    go_enter Tryd.func24, Tryd.ntmps24
    go_wp2
    go_ret
    exact ⟨by rw [HL.out]; rfl, Below.refl _ _⟩
  · have hfit := row_fits hy (show x + 1 ≤ W by omega)
    have hcell := hp (y * W + x) (by omega)
    have hN := Nat.mul_le_mul hW hH
    have x0 : (0 : Int) ≤ (y : Int) * (W : Int) := Int.mul_nonneg (by omega) (by omega)
    have x1 : (y : Int) * (W : Int) + (x : Int) < ((W * H : Nat) : Int) := by rw [← Int.natCast_mul]; omega
    have x3 : (y : Int) * (W : Int) + (x : Int) < (W : Int) * (H : Int) := by rw [← Int.natCast_mul, ← Int.natCast_mul]; omega
    have x2 : ((W * H : Nat) : Int) ≤ 40000 := by omega
    have hl : letterAt W z x y = letter (z (y * W + x)) := if_neg hxw
    have e1 : ((x : Int) == (W : Int)) = false := by simpa using (by omega : ¬ (x : Int) = (W : Int))
    have e2 : (x == W) = false := by simpa using hxw
    obtain ⟨q, hq⟩ : ∃ q, q = z (y * W + x) := ⟨_, rfl⟩
    rw [← hq] at hcell hl
    have HL := Lib.hid hl
    clear hl hfit hN hq hp hxw
    cases q
    · go_enter Tryd.func24, Tryd.ntmps24
      go_wp2
      go_ret
      exact ⟨by rw [HL.out]; rfl, Below.refl _ _⟩
    · go_enter Tryd.func24, Tryd.ntmps24
      go_wp2
      go_ret
      exact ⟨by rw [HL.out]; rfl, Below.refl _ _⟩

set_option maxHeartbeats 800000 in
set_option maxRecDepth 100000 in
theorem print_ok (W H g o c : Nat) (z : Nat → Bool) (w : World) (he : sizeErr W H = 0) (hW : W ≤ 200) (hH : H ≤ 200) (hp : ∀ j, j < W * H → w.cell? ⟨g, o + j, none⟩ = some (.bool (z j))) :
    Calls Tryd.prog 5 #[.agg #[.int .i64 W, .int .i64 H, .slice (some ⟨g, o, none⟩) (W * H) c]] w fun e w' => e = .returned (.tuple #[.string ⟨(pageText W z H).toArray⟩, .int .i64 0]) ∧ Below w.heap.size w w' := by
  have hmf : ∀ (fn : Fn) (first cap : Array Value) (w : World), (Instr.makeFunc fn first cap).run Tryd.prog w = .ok (.func fn first cap) w := fun _ _ _ _ => rfl
  obtain ⟨⟨a1, a2, a3, a4⟩, a5, a6⟩ := sizeErr_zero he
  have hpe : pageErr W H (W * H) = 0 := by unfold pageErr; rw [if_pos he, if_pos (by simp [Int.natCast_mul])]
  have hN := Nat.mul_le_mul (show W + 1 ≤ 201 by omega) hH
  have hpos := Nat.mul_pos (show 0 < W + 1 by omega) (show 0 < H by omega)
  have HC := Lib.hid hp
  have HNN := Lib.hid hN
  clear hp a5 a6 he hN
  go_enter Tryd.func5, Tryd.ntmps5
  go_wp2_with ((go_at_call 22; refine (checkBits_any _ _ _ _ _ _).mono ?_; rintro e w' ⟨rfl, rfl⟩))
  obtain ⟨w1, hw1⟩ : ∃ w1, w1 = (w.alloc (.cells #[.int .i64 W, .int .i64 H, .slice (some ⟨g, o, none⟩) (W * H) c] 24)).alloc (.cells #[.int .i64 W, .int .i64 H, .slice (some ⟨g, o, none⟩) (W * H) c] 24) := ⟨_, rfl⟩
  have B1 : Below w.heap.size w w1 := by rw [hw1]; exact below_alloc (new_below _ _) _
  have q0 : w1.cell? ⟨w.heap.size, 0, none⟩ = some (.int .i64 W) := by rw [hw1]; go_simp
  have q2 : w1.cell? ⟨w.heap.size, 2, none⟩ = some (.slice (some ⟨g, o, none⟩) (W * H) c) := by rw [hw1]; go_simp
  rw [← hw1]
  clear hw1
  have HB1 := Lib.hid B1
  refine (fillByte_any (W + 1) H 24 _ (fun x y => ((letterAt W z x y).toNat : Int)) w1 (by omega) (by omega) (by omega) (by have := HNN.out; omega) (Go.Proofs.enters_of Tryd.func24 (by kernel_rfl) rfl) ?_).mono ?_
  · intro x y wx hx hy hbx
    exact print1_any W H x y w.heap.size g o c z wx hW hH hx hy (cell_later hbx q0) (cell_later hbx q2) (fun j hj => cell_later hbx (cell_later B1 (HC.out j hj)))
  · rintro e w5 ⟨v, rfl, hown, hb5⟩
    obtain ⟨gp, cp, rfl⟩ : ∃ g c, v = .slice (some ⟨g, 0, none⟩) ((W + 1) * H) c := by
      rcases hown.2 with ⟨_, h0⟩ | ⟨g, c, cur, rfl, _⟩
      · omega
      · exact ⟨g, c, rfl⟩
    have hlen : (places (W + 1) (fun x y => ((letterAt W z x y).toNat : Int)) ((W + 1) * H)).length = (W + 1) * H := places_length _ _ _
    have hconv := run_convert_bytes_arg (P := Tryd.prog) w5 37 5 Tryd.underlying37 Tryd.underlying5 gp 0 ((W + 1) * H) cp (places (W + 1) (fun x y => ((letterAt W z x y).toNat : Int)) ((W + 1) * H)) hlen (fun i hi => by
      rw [Nat.zero_add, hown.cellAt i (by omega), List.getElem?_map, List.getD_eq_getElem?_getD, List.getElem?_eq_getElem (by rw [hlen]; exact hi)]
      rfl) 9 Tryd.underlying9
    rw [nums_text] at hconv
    have G := Lib.hid hb5
    clear hown hb5 hlen q0 q2 B1
    go_wp2
    go_ret2
    exact ⟨rfl, below_step HB1.out G.out⟩

end Go.Proofs.YtofcojcfcpfdmaaDoor
namespace Go.Proofs.YtofcojcfcpfdmaaDoor
set_option linter.unusedSimpArgs false
set_option linter.unusedVariables false

theorem indexByte_of : ∀ {l : List UInt8} {c : UInt8} {i : Nat}, l[i]? = some c → (∀ k, k < i → l[k]? ≠ some c) → Lib.indexByte l c = (i : Int)
  | [], _, i, h, _ => by simp at h
  | b :: l, c, 0, h, _ => by
    have : b = c := by simpa using h
    subst this
    unfold Lib.indexByte
    simp
  | b :: l, c, i + 1, h, hn => by
    have hb : b ≠ c := fun e => hn 0 (by omega) (by simp [e])
    have ih := indexByte_of (l := l) (c := c) (i := i) (by simpa using h) (fun k hk => by have := hn (k + 1) (by omega); simpa using this)
    unfold Lib.indexByte
    rw [if_neg (by simpa using hb), ih, if_neg (by simp)]
    push_cast
    rfl

theorem places_get {α : Type} (w : Nat) (f : Nat → Nat → α) (n x y : Nat) (hx : x < w) (hn : y * w + x < n) : (places w f n)[y * w + x]? = some (f x y) := by
  have h1 : (y * w + x) % w = x := by rw [Nat.add_comm, Nat.mul_comm, Nat.add_mul_mod_self_left, Nat.mod_eq_of_lt hx]
  have h2 : (y * w + x) / w = y := by rw [Nat.add_comm, Nat.mul_comm, Nat.add_mul_div_left _ _ (by omega), Nat.div_eq_of_lt hx, Nat.zero_add]
  unfold places
  rw [List.getElem?_map, List.getElem?_range hn]
  simp [h1, h2]

theorem letter_cases (b : Bool) : letter b = 35 ∨ letter b = 46 := by cases b <;> first | exact .inl rfl | exact .inr rfl
theorem letter_ok (b : Bool) : okLetter (letter b) = true := by rcases letter_cases b with h | h <;> rw [h] <;> decide
theorem letter_not (b : Bool) : letter b ≠ 10 := by rcases letter_cases b with h | h <;> rw [h] <;> decide
theorem letter_ink (b : Bool) : decide (letter b = 35) = b := by cases b <;> decide

theorem page_get (W H : Nat) (z : Nat → Bool) (x y : Nat) (hx : x ≤ W) (hy : y < H) : (pageText W z H)[y * (W + 1) + x]? = some (letterAt W z x y) := by
  rw [text_places]
  refine places_get (W + 1) _ _ x y (by omega) ?_
  have h1 := Nat.mul_le_mul_right (W + 1) (show y + 1 ≤ H by omega)
  rw [Nat.add_mul, Nat.one_mul] at h1
  omega
theorem page_length (W H : Nat) (z : Nat → Bool) : (pageText W z H).length = H * (W + 1) := by rw [text_places, places_length]

theorem rest_get (W H : Nat) (z : Nat → Bool) (x y : Nat) (hx : x ≤ W) (hy : y < H) : ((pageText W z H).drop (y * (W + 1)))[x]? = some (letterAt W z x y) := by
  rw [List.getElem?_drop, page_get W H z x y hx hy]

theorem rest_index (W H : Nat) (z : Nat → Bool) (y : Nat) (hy : y < H) : Lib.indexByte ((pageText W z H).drop (y * (W + 1))) 10 = (W : Int) := by
  refine indexByte_of ?_ fun k hk => ?_
  · rw [rest_get W H z W y (Nat.le_refl _) hy, letterAt, if_pos rfl]
  · rw [rest_get W H z k y (by omega) hy, letterAt, if_neg (by omega)]
    exact fun e => letter_not _ (Option.some.inj e)

theorem rest_row (W H : Nat) (z : Nat → Bool) (y : Nat) (hW : 1 ≤ W) (hy : y < H) : rowB (((pageText W z H).drop (y * (W + 1))).take W) = true := by
  unfold rowB
  rw [Bool.and_eq_true]
  refine ⟨?_, List.all_eq_true.2 fun b hb => ?_⟩
  · have h0 : (((pageText W z H).drop (y * (W + 1))).take W)[0]? = some (letterAt W z 0 y) := by
      rw [List.getElem?_take, if_pos (by omega), rest_get W H z 0 y (by omega) hy]
    cases hx : ((pageText W z H).drop (y * (W + 1))).take W with
    | nil => rw [hx] at h0; simp at h0
    | cons _ _ => rfl
  · obtain ⟨k, hk⟩ := List.mem_iff_getElem?.1 hb
    rw [List.getElem?_take] at hk
    by_cases hkW : k < W
    · rw [if_pos hkW, rest_get W H z k y (by omega) hy, letterAt, if_neg (by omega)] at hk
      rw [← Option.some.inj hk]
      exact letter_ok _
    · rw [if_neg hkW] at hk; cases hk

theorem rest_line (W H : Nat) (z : Nat → Bool) (y : Nat) (hW : 1 ≤ W) (hy : y < H) : lineB W ((pageText W z H).drop (y * (W + 1))) = true := by
  unfold lineB
  rw [rest_index W H z y hy, rest_row W H z y hW hy]
  simp

theorem rest_go (W H : Nat) (z : Nat → Bool) (hW : 1 ≤ W) : ∀ (m y f : Nat), y + m = H → m < f → parseGo W f ((pageText W z H).drop (y * (W + 1))) y = (true, H)
  | 0, y, f, hy, hf => by
    obtain ⟨f', rfl⟩ : ∃ f', f = f' + 1 := ⟨f - 1, by omega⟩
    have hyH : y = H := by omega
    subst hyH
    exact parseGo_end (List.drop_eq_nil_of_le (by rw [page_length]; exact Nat.le_refl _))
  | m + 1, y, f, hy, hf => by
    obtain ⟨f', rfl⟩ : ∃ f', f = f' + 1 := ⟨f - 1, by omega⟩
    have hne : (pageText W z H).drop (y * (W + 1)) ≠ [] := by
      intro e
      have := rest_get W H z 0 y (by omega) (by omega)
      rw [e] at this
      simp at this
    rw [parseGo_good hne (rest_line W H z y hW (by omega)), List.drop_drop]
    rw [show y * (W + 1) + (W + 1) = (y + 1) * (W + 1) by rw [Nat.add_mul y 1, Nat.one_mul]]
    exact rest_go W H z hW m (y + 1) f' (by omega) (by omega)

theorem page_pW (W H : Nat) (z : Nat → Bool) (hH : 1 ≤ H) : pW (pageText W z H) = W := by
  unfold pW
  have := rest_index W H z 0 (by omega)
  rw [Nat.zero_mul, List.drop_zero] at this
  rw [this]
  rfl
theorem page_pOut (W H : Nat) (z : Nat → Bool) (hW : 1 ≤ W) (hH : 1 ≤ H) : pOut (pageText W z H) = (true, H) := by
  unfold pOut
  rw [page_pW W H z hH]
  have := rest_go W H z hW H 0 ((pageText W z H).length + 1) (by omega) (by
    rw [page_length]
    have := Nat.le_mul_of_pos_right H (show 0 < W + 1 by omega)
    omega)
  rwa [Nat.zero_mul, List.drop_zero] at this
theorem page_ok (W H : Nat) (z : Nat → Bool) (hW : 1 ≤ W) (hW2 : W ≤ 200) (hH : 1 ≤ H) (hH2 : H ≤ 200) : pErr (pageText W z H) = 0 ∧ pAt (pageText W z H) = 0 := by
  refine pErr_ok ?_ (page_pOut W H z hW hH) (by omega) (by rw [page_pW W H z hH]; omega)
  rw [page_length]
  have := Nat.mul_le_mul hH2 (show W + 1 ≤ 201 by omega)
  omega
theorem page_ink (W H : Nat) (z : Nat → Bool) (x y : Nat) (hx : x < W) (hy : y < H) : inkOf (pageText W z H) W x y = z (y * W + x) := by
  unfold inkOf
  rw [List.getD_eq_getElem?_getD, page_get W H z x y (by omega) hy, letterAt, if_neg (by omega)]
  exact letter_ink _

end Go.Proofs.YtofcojcfcpfdmaaDoor
namespace Go.Proofs.YtofcojcfcpfdmaaDoor
open Go.RowKit
set_option linter.unusedSimpArgs false
set_option linter.unusedVariables false

set_option maxRecDepth 100000 in
theorem equalBool_true (g1 o1 g2 o2 n c1 c2 : Nat) (z : Nat → Bool) (w : World) (hn : n ≤ 100000000)
    (h1 : ∀ j, j < n → w.cell? ⟨g1, o1 + j, none⟩ = some (.bool (z j))) (h2 : ∀ j, j < n → w.cell? ⟨g2, o2 + j, none⟩ = some (.bool (z j))) :
    Calls Tryd.prog 35 #[.slice (some ⟨g1, o1, none⟩) n c1, .slice (some ⟨g2, o2, none⟩) n c2] w fun e w' => e = .returned (.bool true) ∧ ∃ q, w' = w.drewN q := by
  have H1 := Lib.hid h1
  have H2 := Lib.hid h2
  clear h1 h2
  go_enter Tryd.func35, Tryd.ntmps35
  go_wp2
  go_loopw [13] (fun i wr => ∃ k q : Nat, k ≤ n ∧ i = .int .i64 k ∧ wr = w.drewN q) (fun i _ => n - (intOf i).toNat)
  case atStart => exact ⟨0, 0, Nat.zero_le _, rfl, rfl⟩
  case round =>
    obtain ⟨k, q, hk, rfl, rfl⟩ := hrel
    by_cases hlt : k < n
    · have e1 := H1.out k hlt
      have e2 := H2.out k hlt
      generalize z k = x at e1 e2
      have i1 : (k : Int) < (n : Int) := by omega
      have i0 : (0 : Int) ≤ (k : Int) := by omega
      go_wp2
      go_quiet (fail)
      go_wp2
      go_roundw
      case rel => exact ⟨k + 1, _, by omega, by go_num, rfl⟩
      case measure => simp [intOf]; omega
    · go_wp2
      go_ret
      exact ⟨rfl, q, rfl⟩

end Go.Proofs.YtofcojcfcpfdmaaDoor
namespace Go.Proofs.YtofcojcfcpfdmaaDoor
open Go.RowKit
set_option linter.unusedSimpArgs false
set_option linter.unusedVariables false

theorem equalBool_nil (w : World) : Calls Tryd.prog 35 #[.slice none 0 0, .slice none 0 0] w fun e w' => e = .returned (.bool true) ∧ w' = w := by
  go_enter Tryd.func35, Tryd.ntmps35
  go_wp2_with fail
  go_loopw [13] (fun i wr => i = .int .i64 0 ∧ wr = w) (fun i _ => 0)
  case atStart => exact ⟨rfl, rfl⟩
  case round =>
    obtain ⟨rfl, hww⟩ := hrel
    go_wp2_with fail
    go_ret
    exact ⟨rfl, by first | exact hww | rfl⟩

theorem sameBits_true (W H : Int) (g1 o1 g2 o2 n c1 c2 : Nat) (z : Nat → Bool) (w : World) (hn : n ≤ 100000000)
    (h1 : ∀ j, j < n → w.cell? ⟨g1, o1 + j, none⟩ = some (.bool (z j))) (h2 : ∀ j, j < n → w.cell? ⟨g2, o2 + j, none⟩ = some (.bool (z j))) :
    Calls Tryd.prog 12 #[.agg #[.int .i64 W, .int .i64 H, .slice (some ⟨g1, o1, none⟩) n c1], .agg #[.int .i64 W, .int .i64 H, .slice (some ⟨g2, o2, none⟩) n c2]] w fun e w' => e = .returned (.bool true) ∧ Below w.heap.size w w' := by
  have HE := Lib.hid (equalBool_true g1 o1 g2 o2 n c1 c2 z ((w.alloc (.cells #[.int .i64 W, .int .i64 H, .slice (some ⟨g1, o1, none⟩) n c1] 24)).alloc (.cells #[.int .i64 W, .int .i64 H, .slice (some ⟨g2, o2, none⟩) n c2] 24)) hn
    (fun j hj => cell_later (below_alloc (new_below _ _) _) (h1 j hj)) (fun j hj => cell_later (below_alloc (new_below _ _) _) (h2 j hj)))
  clear h1 h2
  go_enter Tryd.func12, Tryd.ntmps12
  go_wp2_with (go_at_call 35; refine HE.out.mono ?_; rintro e w1 ⟨rfl, q, rfl⟩)
  go_ret
  exact ⟨rfl, below_drewN (below_alloc (new_below _ _) _) q⟩

theorem sameBits_zero (w : World) : Calls Tryd.prog 12 #[.agg #[.int .i64 0, .int .i64 0, .slice none 0 0], .agg #[.int .i64 0, .int .i64 0, .slice none 0 0]] w fun e w' => e = .returned (.bool true) ∧ Below w.heap.size w w' := by
  go_enter Tryd.func12, Tryd.ntmps12
  go_wp2_with (go_at_call 35; refine (equalBool_nil _).mono ?_; rintro e w1 ⟨rfl, rfl⟩)
  go_ret
  exact ⟨rfl, below_alloc (new_below _ _) _⟩

/-- Two pages that functions return with one answer are the same. -/
theorem samePg {E : Int} {a b : Nat} {f : Nat → Nat → Bool} {w : World} {i j i' j' : Int} {sl sl' : Option Addr} {n c n' c' : Nat} (hab : E = 0 → a * b ≤ 100000000) (h1 : PgIs E a b f w i j sl n c) (h2 : PgIs E a b f w i' j' sl' n' c') :
    Calls Tryd.prog 12 #[.agg #[.int .i64 i, .int .i64 j, .slice sl n c], .agg #[.int .i64 i', .int .i64 j', .slice sl' n' c']] w fun e w' => e = .returned (.bool true) ∧ Below w.heap.size w w' := by
  rcases h1 with ⟨e1, rfl, rfl, rfl, rfl, rfl⟩ | ⟨e1, rfl, rfl, rfl, g, rfl, hc⟩
  · rcases h2 with ⟨e2, rfl, rfl, rfl, rfl, rfl⟩ | ⟨e2, _⟩
    · exact sameBits_zero w
    · exact absurd e2 e1
  · rcases h2 with ⟨e2, _⟩ | ⟨e2, rfl, rfl, rfl, g', rfl, hc'⟩
    · exact absurd e1 e2
    · exact sameBits_true a b g 0 g' 0 _ c c' (fun k => f (k % a) (k / a)) w (hab e1) hc hc'

theorem PgIs.later {E : Int} {a b : Nat} {f : Nat → Nat → Bool} {w w' : World} {i j : Int} {sl : Option Addr} {n c : Nat} (h : PgIs E a b f w i j sl n c) (hb : Below w.heap.size w w') : PgIs E a b f w' i j sl n c := by
  rcases h with h | ⟨e1, e2, e3, e4, g, e5, hc⟩
  · exact .inl h
  · exact .inr ⟨e1, e2, e3, e4, g, e5, fun k hk => cell_later hb (hc k hk)⟩

end Go.Proofs.YtofcojcfcpfdmaaDoor
namespace Go.Proofs.YtofcojcfcpfdmaaDoor
open Go.RowKit
set_option linter.unusedSimpArgs false
set_option linter.unusedVariables false

set_option maxRecDepth 100000 in
theorem blank_ok (a b : Int) (w : World) (h : sizeErr a b = 0) : Calls Tryd.prog 26 #[.int .i64 a, .int .i64 b] w fun r w' =>
    ∃ (v : Value) (n : Nat), r = .returned (.tuple #[.agg #[.int .i64 a, .int .i64 b, v], .int .i64 0]) ∧ (n : Int) = a * b ∧ w'.ownsRow w.heap.size 4 1 v n (List.replicate n (.bool false)) ∧ Below w.heap.size w w' := by
  obtain ⟨i0, hi, hz0, hz1, hz2⟩ := info_parts info_bool
  obtain ⟨hab, hm0, hm1⟩ := sizeErr_zero h
  obtain ⟨n, hn⟩ := Int.eq_ofNat_of_zero_le hm0
  have hn' : n ≤ 1048576 := by omega
  have HN := Lib.hid hn
  clear hn
  go_enter Tryd.func26, Tryd.ntmps26
  go_wp2_with (first | (go_at_call 59; refine (checkSize_any _ _ _).mono ?_; rintro e w' ⟨rfl, rfl⟩) | (at_make; refine wpList_make_full _ rfl _ _ 22 rfl (w.heap.size + 1) 4 i0 (.bool false) 1 Tryd.underlying22 hi hz0 hz1 _ _ _ _ n rfl rfl HN.out HN.out (by rw [hz2]; omega) (by unfold maxLen; omega) (by simp) ?_))
  intro w1 hown1 hgrow1
  have hb0 := hgrow1.block w.heap.size (by simp) (by simp)
  rw [heap_alloc_new] at hb0
  obtain ⟨q0, q1, q2, r0, r1, r2⟩ := block3 hb0
  clear hb0
  have G := Lib.hid hgrow1
  have O := Lib.hid hown1
  clear hgrow1 hown1
  go_wp2
  refine bodyPost_ret (v := .tuple #[.agg #[.int .i64 a, .int .i64 b, .slice (some ⟨w.heap.size + 1, 0, none⟩) n n], .int .i64 0]) (by simp [results, Tryd.results26, go_sem, q0, q1, q2]) rfl ⟨_, n, rfl, HN.out.symm, ?_, ?_⟩
  · have O' := O.out
    rw [toList_madeCells_one] at O'
    exact owns_base (ownsRow_setCell_below (ownsRow_setCell_below (ownsRow_setCell_below O' (by simp) _) (by simp) _) (by simp) _) (by omega)
  · exact ((((new_below _ _).grown G.out (by simp) (by simp)).setCell (by simp) _).setCell (by simp) _).setCell (by simp) _

theorem pages_any (w : World) : Calls Tryd.prog 9 #[] w fun r w' => r = .returned (.bool true) ∧ Below w.heap.size w w' := by
  have hs : sizeErr 2 3 = 0 := by decide
  have HB := Lib.hid (blank_ok 2 3 w hs)
  clear hs
  go_enter Tryd.func9, Tryd.ntmps9
  go_wp2_with fail
  refine HB.out.mono ?_
  rintro e w1 ⟨v, n, rfl, hn, hown, hb⟩
  obtain rfl : n = 6 := by omega
  rcases hown.2 with ⟨_, h0⟩ | ⟨g, cap, cur, rfl, hg, hgg, _⟩
  · cases h0
  have B := Lib.hid hb
  clear hb hown hn hgg HB
  go_wp2
  go_ret
  exact ⟨rfl, below_alloc B.out _⟩

end Go.Proofs.YtofcojcfcpfdmaaDoor
namespace Go.Proofs.YtofcojcfcpfdmaaDoor
open Go.ChangeShapes Go.WideShapes Go.ChangeAt Go.RowKit Go.Joins
open Go.ChangeMaps (open_string shut_string)
set_option linter.unusedVariables false

theorem own : ownKnob Tryd.prog.godebug = none := by kernel_rfl
theorem laidOut : laidOutB Tryd.prog = true := by kernel_rfl
theorem cellsBits : Tryd.prog.cellsOf 24 = 3 := by kernel_rfl
theorem cellsByte : Tryd.prog.cellsOf 5 = 1 := by kernel_rfl

theorem cellsBool : Tryd.prog.cellsOf 4 = 1 := by kernel_rfl

/-- A slice of bools that came in: nil; or its cells hold what B tells. -/
def IsBools (w : World) (a : Option Addr) (len cap : Nat) (B : Nat → Bool) : Prop :=
  (a = none ∧ len = 0 ∧ cap = 0) ∨ ∃ x, a = some x ∧ ∀ i, i < len → w.cell? (x.add i) = some (.bool (B i))

theorem isBools_cells {w : World} {a : Option Addr} {len cap : Nat} {B : Nat → Bool} (h : IsBools w a len cap B) (hl : 1 ≤ len) :
    ∃ pb po, a = some ⟨pb, po, none⟩ ∧ ∀ j, j < len → w.cell? ⟨pb, po + j, none⟩ = some (.bool (B j)) := by
  rcases h with ⟨_, h0, _⟩ | ⟨⟨pb, po, spot⟩, rfl, hcell⟩
  · omega
  · have hspot : spot = none := by simpa [Addr.add] using World.cell?_spot (hcell 0 (by omega))
    subst hspot
    exact ⟨pb, po, rfl, fun j hj => by have := hcell j hj; rwa [Addr.add_lit] at this⟩

theorem isBools_later {w w' : World} {a : Option Addr} {len cap : Nat} {B : Nat → Bool} (h : IsBools w a len cap B) (hb : Below w.heap.size w w') : IsBools w' a len cap B := by
  rcases h with h | ⟨x, h1, h2⟩
  · exact .inl h
  · exact .inr ⟨x, h1, fun i hi => (hb.cell (World.block_lt_of_cell? _ _ (h2 i hi))).trans (h2 i hi)⟩

set_option maxRecDepth 100000 in
/-- A page in black and white by value, opened. -/
theorem open_bits {W : World} {H : Type} {enc : TypeId × Value → H} {base : Nat} {held : Bool} {r : Reach} {b0 : Nat} {v : Value} {d : DataW H} {p : List MemPlace}
    (hv : Value.okWide Tryd.prog W r b0 24 v) (h : DataW.Trod enc Tryd.prog W base (fun _ => true) held 24 v d p) :
    ∃ a b s n c B, v = .agg #[.int .i64 a, .int .i64 b, .slice s n c] ∧ IsBools W s n c B := by
  obtain ⟨c0, c1, c2, y0, y1, y2, m, rfl, rfl, rfl, hy0, hy1, hy2⟩ := open_agg3 Tryd.underlying24 (by kernel_rfl) cellsBits hv h
  obtain ⟨a, e0, rfl, wa⟩ := DataW.trod_int Tryd.underlying3 hy0
  obtain ⟨b, e1, rfl, wb⟩ := DataW.trod_int Tryd.underlying3 hy1
  simp at e0 e1
  subst e0 e1
  rcases Go.Deep.open_bools Tryd.underlying22 Tryd.underlying4 cellsBool hy2 with ⟨hcs, _⟩ | ⟨x, l, c, B, hcs, _, hl, hm, _, hcell⟩
  · simp at hcs
    subst hcs
    exact ⟨a, b, none, 0, 0, fun _ => false, rfl, .inl ⟨rfl, rfl, rfl⟩⟩
  · simp at hcs
    subst hcs
    exact ⟨a, b, some x, l, c, B, rfl, .inr ⟨x, rfl, fun i hi => hcell i (by omega)⟩⟩

end Go.Proofs.YtofcojcfcpfdmaaDoor
