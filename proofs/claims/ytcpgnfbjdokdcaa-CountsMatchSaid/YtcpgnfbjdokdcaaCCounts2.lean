/-
  What counts_holds leans on: contracts of the functions that it calls.
-/
import Derived.Test.YtcpgnfbjdokdcaaRows
import Derived.WalkKit
import Derived.WalkSpells
import Derived.WalkLawsBesides
import Derived.Lib.Hide
import Derived.Deep.RegionHeld3
import Derived.Shelf.Abstract
import Derived.Deep.AppendLies
import Derived.Deep.DrawnRows
import Derived.Deep.RegionLaw
import Derived.Deep.QuietTactic
import Derived.BigQuiet
import Derived.ProofKit
import Derived.OpenShut
import Derived.ShutString
import Derived.ChangeOld
import Derived.Lib.SmallJoins
import Derived.Deep.Grids
import Derived.Deep.DeepCutAuto
import Derived.Lib.MinMax
import Derived.Deep.CutRange
import Derived.Laws.EntriesVeiled
import Derived.StillTailTactics
import Derived.Test.YtcpgnfbjdokdcaaCCounts1
namespace Go.Proofs.Ytcpgnfbjdokdcaa
open Go.RowKit
set_option linter.unusedSimpArgs false
set_option linter.unusedVariables false
attribute [local go_sem ↓] Go.wp_at_zero Go.wp_at_succ

/-- What holds while Made runs: n values are there; they lie in a row of their own, which the page's variable leads to. -/
def MadeRelY (w h : Nat) (f : Nat → Nat → Int) (W0 : World) (n : Nat) (wr : World) (v : Value) : Prop :=
  wr.ownsRow (W0.heap.size + 2) 5 1 v n ((places w f n).map (Value.int .u8)) ∧ wr.heap[W0.heap.size]? = some (.cells #[.int .i64 0, .int .i64 0, .slice none 0 0] 27 (0, 0)) ∧
  wr.heap[W0.heap.size + 1]? = some (.cells #[.int .i64 w, .int .i64 h, v] 27 (0, 0)) ∧ Below W0.heap.size W0 wr

theorem MadeRelY.later {w h : Nat} {f : Nat → Nat → Int} {W0 wr w' : World} {n : Nat} {v : Value} (hr : MadeRelY w h f W0 n wr v) (hb : Below wr.heap.size wr w') : MadeRelY w h f W0 n w' v :=
  ⟨below_owns hr.1 hb, below_block hb hr.2.1, below_block hb hr.2.2.1, below_step hr.2.2.2 hb⟩

theorem MadeRelY.stored {w h : Nat} {f : Nat → Nat → Int} {W0 wr w1 : World} {v v' : Value} {x y : Nat} (hr : MadeRelY w h f W0 (y * w + x) wr v) (hx : x < w) (q : Int) (hq : q = f x y)
    (hown : w1.ownsRow (W0.heap.size + 2) 5 1 v' (y * w + x + 1) ((places w f (y * w + x)).map (Value.int .u8) ++ [Value.int .u8 q])) (hg : wr.grownBy w1 v.ownBlock) :
    MadeRelY w h f W0 (y * w + x + 1) (w1.setCell ⟨W0.heap.size + 1, 2, none⟩ v') v' := by
  obtain ⟨h1, h2, h3, h4⟩ := hr
  have hrow : ∀ k, v.ownBlock = some k → W0.heap.size + 2 ≤ k := fun k hk => (h1.lt k hk).1
  have n0 : some W0.heap.size ≠ v.ownBlock := fun e => by have := hrow _ e.symm; omega
  have n1 : some (W0.heap.size + 1) ≠ v.ownBlock := fun e => by have := hrow _ e.symm; omega
  refine ⟨?_, ?_, ?_, ?_⟩
  · rw [places_succ w f x y hx, List.map_append, ← hq]
    exact ownsRow_setCell_below hown (by simp) _
  · rw [Below.heap_setCell _ _ _ _ (by simp)]
    exact grown_block hg h2 n0
  · exact heap_setCell_same w1 (W0.heap.size + 1) 2 #[.int .i64 w, .int .i64 h, v] 27 v' (grown_block hg h3 n1)
  · exact (h4.grown hg h4.size (fun k hk => by have := hrow k hk; omega)).setCell (by simp) _

set_option maxHeartbeats 2000000 in
set_option maxRecDepth 100000 in
theorem madeGray_any (w h g : Nat) (capt : Array Value) (f : Nat → Nat → Int) (W0 : World) (hw : 1 ≤ w) (hw' : w ≤ 10000000) (hh : h ≤ 10000000) (hN : w * h ≤ 10000000)
    (eg : ∀ (args : Array Value) (W : World), (callFunc g args).run Try.prog W = .ok (.enter g args) W)
    (hc : ∀ (x y : Nat) (W : World), x < w → y < h → Below W0.heap.size W0 W → Calls Try.prog g (#[.int .i64 x, .int .i64 y] ++ capt) W fun e W' => e = .returned (.int .u8 (f x y)) ∧ Below W.heap.size W W') :
    Calls Try.prog 30 #[.int .i64 w, .int .i64 h, .func (.func g) #[] capt] W0 fun e W' =>
      ∃ v, e = .returned (.agg #[.int .i64 w, .int .i64 h, v]) ∧ W'.ownsRow W0.heap.size 5 1 v (w * h) ((places w f (w * h)).map (Value.int .u8)) ∧ Below W0.heap.size W0 W' := by
  obtain ⟨i0, hi, hz0, hz1, hz2⟩ := info_parts info_byte
  have HC := Lib.hid hc
  clear hc
  go_enter Try.func30, Try.ntmps30
  go_wp2_with fail
  obtain ⟨w1, hw1⟩ : ∃ w1, w1 = (W0.alloc (.cells #[.int .i64 0, .int .i64 0, .slice none 0 0] 27)).alloc (.cells #[.int .i64 w, .int .i64 h, .slice none 0 0] 27) := ⟨_, rfl⟩
  have B1 : Below W0.heap.size W0 w1 := by rw [hw1]; exact below_alloc (new_below _ _) _
  have b0 : w1.heap[W0.heap.size]? = some (.cells #[.int .i64 0, .int .i64 0, .slice none 0 0] 27 (0, 0)) := by
    rw [hw1, Below.heap_alloc _ _ _ (by simp)]; exact heap_alloc_new _ _
  have b1 : w1.heap[W0.heap.size + 1]? = some (.cells #[.int .i64 w, .int .i64 h, .slice none 0 0] 27 (0, 0)) := by
    rw [hw1]; simpa using heap_alloc_new (W0.alloc (.cells #[.int .i64 0, .int .i64 0, .slice none 0 0] 27)) (.cells #[.int .i64 w, .int .i64 h, .slice none 0 0] 27)
  rw [← hw1]
  clear hw1
  have R1 : MadeRelY w h f W0 0 w1 (.slice none 0 0) := ⟨by simpa [places] using World.ownsRow_nil _ _ _ _, b0, b1, B1⟩
  clear b0 b1 B1
  go_loopw [14] (fun i wr => ∃ (y : Nat) (v : Value), y ≤ h ∧ i = .int .i64 y ∧ MadeRelY w h f W0 (y * w) wr v) (fun i _ => h - (intOf i).toNat)
  case atStart => exact ⟨0, _, Nat.zero_le _, rfl, by simpa using R1⟩
  case round =>
    obtain ⟨y, v0, hy, rfl, hrel0⟩ := hrel
    clear R1
    by_cases hlt : y < h
    · obtain ⟨wo, rfl⟩ : ∃ wo : World, wo = wr := ⟨_, rfl⟩
      go_wp2_with fail
      go_loopw [18] (fun i wr => ∃ (x : Nat) (v : Value), x ≤ w ∧ i = .int .i64 x ∧ MadeRelY w h f W0 (y * w + x) wr v) (fun i _ => w - (intOf i).toNat)
      case atStart => exact ⟨0, v0, Nat.zero_le _, rfl, by simpa using hrel0⟩
      case round =>
        obtain ⟨x, v, hx, rfl, hrelr⟩ := hrel
        clear hrel0
        by_cases hltx : x < w
        · have HC' := HC.out x y
          have hfit := row_fits hlt (show x + 1 ≤ w by omega)
          obtain ⟨k0, k1, k2, r0, r1, r2⟩ := block3 hrelr.2.2.1
          have hl := World.block_lt_of_cell? _ _ k2
          simp only at hl
          have HR := Lib.hid hrelr
          obtain ⟨q, hq⟩ : ∃ q, q = f x y := ⟨_, rfl⟩
          rw [← hq] at HC'
          have HQ := Lib.hid hq
          have hnb : some (W0.heap.size + 1) ≠ v.ownBlock := fun e => by have := (hrelr.1.lt _ e.symm).1; omega
          clear hq hrelr k0 k1 r0 r1
          go_wp2_with fail
          go_region_law ((first | (go_simp; go_at_fn g; refine (HC' _ hltx hlt (HR.out.2.2.2.drew)).mono ?_; rintro e w' ⟨rfl, hb'⟩; have hrel' := HR.out.later (below_step (Below.refl _ _).drew hb'); have kk := cell_later (below_step (Below.refl _ _).drew hb') k2; have hl' := Nat.lt_of_lt_of_le hl hb'.size) | (refine step_append_lies _ (by rfl) _ _ _ (by rfl) (W0.heap.size + 2) 5 i0 (.int .u8 0) 1 1 Try.underlying25 hi hz0 hz1 hz2 rfl (by omega) v (y * w + x) _ (by rfl) (hrel'.1.alloc _) ⟨w'.heap.size, 0, none⟩ 1 1 [.int .u8 q] (by rfl) (by rfl) (cell_one_new _ _ _) (by simp [Value.oneCell']) (by omega) (by unfold maxLen; omega) (by omega) (by have := hrel'.2.2.2.size; have := World.block_lt_of_cell? _ _ (block3 hrel'.2.2.1).1; simp at this; simp; omega) (w'.heap.size + 1) (by simp) ?_; intro gg cap w5 hown5 hgrow hat hlt5; have hb5 := block3 (grown_block hgrow ((Below.heap_alloc _ _ _ (Array.getElem?_eq_some_iff.1 hrel'.2.2.1).1).trans hrel'.2.2.1) hnb); have hfz5 := hb5.2.2.2.2.2; have hcl5 := hb5.2.2.1; clear hb5)))
          all_goals
            have RR := (hrel'.later (new_below w' _)).stored hltx q HQ.out hown5 hgrow
            clear hown5 hgrow hat hlt5 hfz5 hcl5 hrel' kk hl' hb' HC' k2 hl hnb
            go_wp2_with fail
            go_roundw
            case rel => exact ⟨x + 1, _, by omega, by go_num, RR⟩
            case measure => simp [intOf]; omega
        · have hxe := Lib.hid (show x = w by omega)
          go_wp2_with fail
          go_roundw
          case rel => exact ⟨y + 1, v, by omega, by go_num, by rw [show (y + 1) * w = y * w + x by rw [hxe.out, Nat.add_mul, Nat.one_mul]]; exact hrelr⟩
          case measure => simp [intOf]; omega
    · have hye := Lib.hid (show y = h by omega)
      obtain ⟨va, vn, vc, rfl⟩ : ∃ a n c, v0 = .slice a n c := by
        rcases hrel0.1.2 with ⟨h0, _⟩ | ⟨g, cap, cur, h0, _⟩
        · exact ⟨_, _, _, h0⟩
        · exact ⟨_, _, _, h0⟩
      have HR := Lib.hid hrel0
      obtain ⟨k0, k1, k2, _, _, _⟩ := block3 hrel0.2.2.1
      obtain ⟨j0, j1, j2, r0, r1, r2⟩ := block3 hrel0.2.1
      clear hrel0
      go_wp2_with fail
      refine bodyPost_ret (v := .agg #[.int .i64 w, .int .i64 h, .slice va vn vc]) (by simp [results, Try.results30, go_sem, j0, j1, j2]) rfl ⟨_, rfl, ?_, ?_⟩
      · have h1 := HR.out.1
        rw [hye.out, Nat.mul_comm h w] at h1
        exact owns_base (ownsRow_setCell_below (ownsRow_setCell_below (ownsRow_setCell_below h1 (by simp) _) (by simp) _) (by simp) _) (by omega)
      · exact ((HR.out.2.2.2.setCell (by simp) _).setCell (by simp) _).setCell (by simp) _

end Go.Proofs.Ytcpgnfbjdokdcaa
namespace Go.Proofs.Ytcpgnfbjdokdcaa
open Go.ChangeShapes Go.WideShapes Go.ChangeAt Go.RowKit Go.Joins
open Go.ChangeMaps (open_string shut_string)
set_option linter.unusedVariables false

theorem own : ownKnob Try.prog.godebug = none := by kernel_rfl
theorem laidOut : laidOutB Try.prog = true := by kernel_rfl
theorem cellsGray : Try.prog.cellsOf 27 = 3 := by kernel_rfl
theorem cellsBits : Try.prog.cellsOf 24 = 3 := by kernel_rfl
theorem cellsByte : Try.prog.cellsOf 5 = 1 := by kernel_rfl

/-- A slice of bytes that came in: nil; or its cells hold the numbers zs, each a byte. -/
def IsBytes (w : World) (a : Option Addr) (len cap : Nat) (zs : List Int) : Prop :=
  (a = none ∧ len = 0 ∧ cap = 0 ∧ zs = []) ∨
  ∃ x, a = some x ∧ len ≤ cap ∧ zs.length = cap ∧ (∀ i, i < zs.length → w.cell? (x.add i) = some (.int .u8 (zs.getD i 0))) ∧ ∀ n ∈ zs, (Lit.int .u8 n).wf = true

theorem isBytes_cells {w : World} {a : Option Addr} {len cap : Nat} {zs : List Int} (h : IsBytes w a len cap zs) (hl : 1 ≤ len) :
    ∃ pb po, a = some ⟨pb, po, none⟩ ∧ (∀ j, j < len → w.cell? ⟨pb, po + j, none⟩ = some (.int .u8 (zs.getD j 0))) ∧ ∀ j, 0 ≤ zs.getD j 0 ∧ zs.getD j 0 ≤ 255 := by
  rcases h with ⟨_, h0, _⟩ | ⟨⟨pb, po, spot⟩, rfl, hlc, hz, hcell, hwf⟩
  · omega
  · have hspot : spot = none := by simpa [Addr.add] using World.cell?_spot (hcell 0 (by omega))
    subst hspot
    refine ⟨pb, po, rfl, fun j hj => by have := hcell j (by omega); rwa [Addr.add_lit] at this, fun j => ?_⟩
    by_cases hj : j < zs.length
    · have hm : zs.getD j 0 ∈ zs := by rw [List.getD_eq_getElem?_getD, List.getElem?_eq_getElem hj]; exact List.getElem_mem hj
      have hmin : IntKind.u8.min = 0 := rfl
      have hmax : IntKind.u8.max = 255 := rfl
      have := hwf _ hm
      simp only [Lit.wf, Bool.and_eq_true, decide_eq_true_eq] at this
      omega
    · rw [List.getD_eq_getElem?_getD, List.getElem?_eq_none (by omega)]
      simp

set_option maxRecDepth 100000 in
/-- A page in grey by value, opened. -/
theorem open_gray {W : World} {H : Type} {enc : TypeId × Value → H} {base : Nat} {held : Bool} {r : Reach} {b0 : Nat} {v : Value} {d : DataW H} {p : List MemPlace}
    (hv : Value.okWide Try.prog W r b0 27 v) (h : DataW.Trod enc Try.prog W base (fun _ => true) held 27 v d p) :
    ∃ a b s n c zs, v = .agg #[.int .i64 a, .int .i64 b, .slice s n c] ∧ IsBytes W s n c zs := by
  obtain ⟨c0, c1, c2, y0, y1, y2, m, rfl, rfl, rfl, hy0, hy1, hy2⟩ := open_agg3 Try.underlying27 (by kernel_rfl) cellsGray hv h
  obtain ⟨a, e0, rfl, wa⟩ := DataW.trod_int Try.underlying3 hy0
  obtain ⟨b, e1, rfl, wb⟩ := DataW.trod_int Try.underlying3 hy1
  simp at e0 e1
  subst e0 e1
  rcases open_ints Try.underlying25 Try.underlying5 cellsByte hy2 with ⟨hcs, _⟩ | ⟨x, l, c, zs, hcs, _, hl, hm, hz, _, hcell, hwz⟩
  · simp at hcs
    subst hcs
    exact ⟨a, b, none, 0, 0, [], rfl, .inl ⟨rfl, rfl, rfl, rfl⟩⟩
  · simp at hcs
    subst hcs
    exact ⟨a, b, some x, l, c, zs, rfl, .inr ⟨x, rfl, hl, by simpa using hz, hcell, hwz⟩⟩

theorem cellsBool : Try.prog.cellsOf 4 = 1 := by kernel_rfl

/-- A slice of bools that came in: nil; or its cells hold what B tells. -/
def IsBools (w : World) (a : Option Addr) (len cap : Nat) (B : Nat → Bool) : Prop :=
  (a = none ∧ len = 0 ∧ cap = 0) ∨ ∃ x, a = some x ∧ ∀ i, i < len → w.cell? (x.add i) = some (.bool (B i))

theorem isBools_cells {w : World} {a : Option Addr} {len cap : Nat} {B : Nat → Bool} (h : IsBools w a len cap B) (hl : 1 ≤ len) :
    ∃ pb po, a = some ⟨pb, po, none⟩ ∧ ∀ j, j < len → w.cell? ⟨pb, po + j, none⟩ = some (.bool (B j)) := by
  rcases h with ⟨_, h0, _⟩ | ⟨⟨pb, po, spot⟩, rfl, hcell⟩
  · omega
  · have hspot : spot = none := by simpa [Addr.add] using World.cell?_spot (hcell 0 (by omega))
    subst hspot
    exact ⟨pb, po, rfl, fun j hj => by have := hcell j hj; rwa [Addr.add_lit] at this⟩

theorem isBools_later {w w' : World} {a : Option Addr} {len cap : Nat} {B : Nat → Bool} (h : IsBools w a len cap B) (hb : Below w.heap.size w w') : IsBools w' a len cap B := by
  rcases h with h | ⟨x, h1, h2⟩
  · exact .inl h
  · exact .inr ⟨x, h1, fun i hi => (hb.cell (World.block_lt_of_cell? _ _ (h2 i hi))).trans (h2 i hi)⟩

theorem isBytes_later {w w' : World} {a : Option Addr} {len cap : Nat} {zs : List Int} (h : IsBytes w a len cap zs) (hb : Below w.heap.size w w') : IsBytes w' a len cap zs := by
  rcases h with h | ⟨x, h1, h2, h3, h4, h5⟩
  · exact .inl h
  · exact .inr ⟨x, h1, h2, h3, fun i hi => (hb.cell (World.block_lt_of_cell? _ _ (h4 i hi))).trans (h4 i hi), h5⟩

set_option maxRecDepth 100000 in
/-- A page in black and white by value, opened. -/
theorem open_bits {W : World} {H : Type} {enc : TypeId × Value → H} {base : Nat} {held : Bool} {r : Reach} {b0 : Nat} {v : Value} {d : DataW H} {p : List MemPlace}
    (hv : Value.okWide Try.prog W r b0 24 v) (h : DataW.Trod enc Try.prog W base (fun _ => true) held 24 v d p) :
    ∃ a b s n c B, v = .agg #[.int .i64 a, .int .i64 b, .slice s n c] ∧ IsBools W s n c B := by
  obtain ⟨c0, c1, c2, y0, y1, y2, m, rfl, rfl, rfl, hy0, hy1, hy2⟩ := open_agg3 Try.underlying24 (by kernel_rfl) cellsBits hv h
  obtain ⟨a, e0, rfl, wa⟩ := DataW.trod_int Try.underlying3 hy0
  obtain ⟨b, e1, rfl, wb⟩ := DataW.trod_int Try.underlying3 hy1
  simp at e0 e1
  subst e0 e1
  rcases Go.Deep.open_bools Try.underlying22 Try.underlying4 cellsBool hy2 with ⟨hcs, _⟩ | ⟨x, l, c, B, hcs, _, hl, hm, _, hcell⟩
  · simp at hcs
    subst hcs
    exact ⟨a, b, none, 0, 0, fun _ => false, rfl, .inl ⟨rfl, rfl, rfl⟩⟩
  · simp at hcs
    subst hcs
    exact ⟨a, b, some x, l, c, B, rfl, .inr ⟨x, rfl, fun i hi => hcell i (by omega)⟩⟩

end Go.Proofs.Ytcpgnfbjdokdcaa
namespace Go.Proofs.Ytcpgnfbjdokdcaa
open Go.RowKit
set_option linter.unusedSimpArgs false
set_option linter.unusedVariables false

instance (X Y bw bh W H : Int) : Decidable (InP X Y bw bh W H) := by unfold InP; infer_instance

/-- The error of a cut: of the page, else of the box. -/
def cutErr (a b : Int) (n : Nat) (X Y bw bh : Int) : Int := if pageErr a b n = 0 then (if InP X Y bw bh a b then 0 else 13) else pageErr a b n

theorem page_parts {a b : Int} {n : Nat} (h : pageErr a b n = 0) : sizeErr a b = 0 ∧ (n : Int) = a * b := by
  unfold pageErr at h
  by_cases h0 : sizeErr a b = 0
  · rw [if_pos h0] at h
    by_cases h1 : (n : Int) = a * b
    · exact ⟨h0, h1⟩
    · rw [if_neg h1] at h; simp at h
  · rw [if_neg h0] at h; exact absurd h h0

/-- The numbers of a right page. -/
theorem page_nat {a b : Int} {n : Nat} (h : pageErr a b n = 0) : ∃ W H : Nat, a = W ∧ b = H ∧ n = W * H ∧ 1 ≤ W ∧ W ≤ 4000 ∧ 1 ≤ H ∧ H ≤ 4000 ∧ n ≤ 1048576 ∧ sizeErr (W : Int) (H : Int) = 0 := by
  obtain ⟨he, hn⟩ := page_parts h
  obtain ⟨⟨a1, a2, a3, a4⟩, z0, z1⟩ := sizeErr_zero he
  obtain ⟨W, rfl⟩ := Int.eq_ofNat_of_zero_le (by omega : 0 ≤ a)
  obtain ⟨H, rfl⟩ := Int.eq_ofNat_of_zero_le (by omega : 0 ≤ b)
  refine ⟨W, H, rfl, rfl, ?_, by omega, by omega, by omega, by omega, by omega, he⟩
  have : (n : Int) = ((W * H : Nat) : Int) := by rw [hn, Int.natCast_mul]
  omega

/-- The numbers of a box in a right page. -/
theorem box_nat {X Y bw bh : Int} {W H : Nat} (h : InP X Y bw bh W H) : ∃ x y p q : Nat, X = x ∧ Y = y ∧ bw = p ∧ bh = q ∧ x + p ≤ W ∧ y + q ≤ H ∧ 1 ≤ p ∧ 1 ≤ q := by
  obtain ⟨h1, h2, h3, h4⟩ := h
  obtain ⟨x, rfl⟩ := Int.eq_ofNat_of_zero_le h1.1
  obtain ⟨y, rfl⟩ := Int.eq_ofNat_of_zero_le h2.1
  obtain ⟨p, rfl⟩ := Int.eq_ofNat_of_zero_le (by omega : 0 ≤ bw)
  obtain ⟨q, rfl⟩ := Int.eq_ofNat_of_zero_le (by omega : 0 ≤ bh)
  exact ⟨x, y, p, q, rfl, rfl, rfl, rfl, by omega, by omega, by omega, by omega⟩

theorem owns_pageB {w : World} {base : Nat} {v : Value} {N bw : Nat} {f : Nat → Nat → Bool} (h : w.ownsRow base 4 1 v N ((places bw f N).map Value.bool)) (hN : 1 ≤ N) :
    ∃ g c, v = .slice (some ⟨g, 0, none⟩) N c ∧ base ≤ g ∧ ∀ j, j < N → w.cell? ⟨g, 0 + j, none⟩ = some (.bool (f (j % bw) (j / bw))) := by
  rcases h.2 with ⟨_, h0⟩ | ⟨g, c, cur, rfl, hg, _⟩
  · omega
  · exact ⟨g, c, rfl, hg, fun j hj => by rw [Nat.zero_add, h.cellAt j (by omega)]; simp [places, List.getElem?_range hj]⟩

theorem owns_pageY {w : World} {base : Nat} {v : Value} {N bw : Nat} {f : Nat → Nat → Int} (h : w.ownsRow base 5 1 v N ((places bw f N).map (Value.int .u8))) (hN : 1 ≤ N) :
    ∃ g c, v = .slice (some ⟨g, 0, none⟩) N c ∧ base ≤ g ∧ ∀ j, j < N → w.cell? ⟨g, 0 + j, none⟩ = some (.int .u8 (f (j % bw) (j / bw))) := by
  rcases h.2 with ⟨_, h0⟩ | ⟨g, c, cur, rfl, hg, _⟩
  · omega
  · exact ⟨g, c, rfl, hg, fun j hj => by rw [Nat.zero_add, h.cellAt j (by omega)]; simp [places, List.getElem?_range hj]⟩

/-- What a cut is, in memory: nothing with an error; else the places of the box. -/
def CutIs (a b : Int) (n : Nat) (X Y bw bh : Int) (z : Nat → Bool) (B : Nat) (w : World) (i j : Int) (sl : Option Addr) (n' c' : Nat) : Prop :=
  (cutErr a b n X Y bw bh ≠ 0 ∧ i = 0 ∧ j = 0 ∧ sl = none ∧ n' = 0 ∧ c' = 0) ∨
  (cutErr a b n X Y bw bh = 0 ∧ i = bw ∧ j = bh ∧ n' = bw.toNat * bh.toNat ∧ ∃ g, B ≤ g ∧ sl = some ⟨g, 0, none⟩ ∧ ∀ k, k < n' → w.cell? ⟨g, 0 + k, none⟩ = some (.bool (z ((Y.toNat + k / bw.toNat) * a.toNat + X.toNat + k % bw.toNat))))

theorem CutIs.later {a b : Int} {n : Nat} {X Y bw bh : Int} {z : Nat → Bool} {B : Nat} {w w' : World} {i j : Int} {sl : Option Addr} {n' c' : Nat} (h : CutIs a b n X Y bw bh z B w i j sl n' c') (hb : Below w.heap.size w w') : CutIs a b n X Y bw bh z B w' i j sl n' c' := by
  rcases h with h | ⟨h1, h2, h3, h4, g, h5, h6, h7⟩
  · exact .inl h
  · exact .inr ⟨h1, h2, h3, h4, g, h5, h6, fun k hk => cell_later hb (h7 k hk)⟩
/-- InPage, for whatever page. -/
theorem inPage_any (X Y bw bh a b : Int) (w : World) :
    Calls Try.prog 24 #[.agg #[.int .i64 X, .int .i64 Y, .int .i64 bw, .int .i64 bh], .int .i64 a, .int .i64 b] w fun e w' => ∃ q, e = .returned (.bool q) ∧ (sizeErr a b = 0 → q = decide (InP X Y bw bh a b)) ∧ Below w.heap.size w w' := by
  by_cases h : sizeErr a b = 0
  · have hz := (sizeErr_zero h).1
    by_cases hb : InP X Y bw bh a b
    · refine (inPage_yes X Y bw bh a b w (by omega) (by omega) hb).mono ?_
      rintro e w' ⟨rfl, hbel⟩
      exact ⟨true, rfl, fun _ => (decide_eq_true hb).symm, hbel⟩
    · refine (inPage_no X Y bw bh a b w (by omega) (by omega) hb).mono ?_
      rintro e w' ⟨rfl, hbel⟩
      exact ⟨false, rfl, fun _ => (decide_eq_false hb).symm, hbel⟩
  · refine (inPage_some X Y bw bh a b w).mono ?_
    rintro e w' ⟨⟨q, rfl⟩, hbel⟩
    exact ⟨q, rfl, fun k => absurd k h, hbel⟩

theorem want_cut {a b X Y bw bh : Int} {n : Nat} {q : Bool} (hq : sizeErr a b = 0 → q = decide (InP X Y bw bh a b)) : orI (pageErr a b n) (whenI (!q) 13) = cutErr a b n X Y bw bh := by
  unfold orI cutErr whenI
  by_cases h : pageErr a b n = 0
  · rw [if_pos h, if_pos h, hq (page_parts h).1]
    by_cases hb : InP X Y bw bh a b <;> simp [hb]
  · rw [if_neg h, if_neg h]

end Go.Proofs.Ytcpgnfbjdokdcaa
namespace Go.Proofs.Ytcpgnfbjdokdcaa
open Go.RowKit
set_option linter.unusedSimpArgs false
set_option linter.unusedVariables false

/-- The sum of the first n of f. -/
def sumN (f : Nat → Nat) : Nat → Nat
  | 0 => 0
  | n + 1 => sumN f n + f n

theorem sumN_le (f : Nat → Nat) (m : Nat) (h : ∀ j, f j ≤ m) : ∀ n, sumN f n ≤ n * m
  | 0 => by simp [sumN]
  | n + 1 => by
    have h1 := sumN_le f m h n
    have h2 := h n
    rw [sumN, Nat.add_mul]
    omega

theorem sumN_congr {f g : Nat → Nat} : ∀ {n : Nat}, (∀ j, j < n → f j = g j) → sumN f n = sumN g n
  | 0, _ => rfl
  | n + 1, h => by rw [sumN, sumN, sumN_congr fun j hj => h j (by omega), h n (by omega)]

theorem sumN_pos {f : Nat → Nat} : ∀ {n : Nat}, 0 < sumN f n → ∃ j, j < n ∧ 0 < f j
  | 0, h => by simp [sumN] at h
  | n + 1, h => by
    by_cases h1 : 0 < f n
    · exact ⟨n, by omega, h1⟩
    · rw [sumN] at h
      obtain ⟨j, hj, h2⟩ := sumN_pos (f := f) (n := n) (by omega)
      exact ⟨j, by omega, h2⟩

theorem sumN_ge {f : Nat → Nat} : ∀ {n j : Nat}, j < n → f j ≤ sumN f n
  | 0, _, h => by omega
  | n + 1, j, h => by
    rw [sumN]
    by_cases e : j = n
    · subst e; omega
    · have := sumN_ge (f := f) (n := n) (j := j) (by omega)
      omega

/-- The ink of one row of a box. -/
def ink1 (z : Nat → Bool) (W X y : Nat) (n : Nat) : Nat := sumN (fun i => (z (y * W + (X + i))).toNat) n
/-- The ink of a box. -/
def inkB (z : Nat → Bool) (W X Y p q : Nat) : Nat := sumN (fun j => ink1 z W X (Y + j) p) q

theorem toNat_le (b : Bool) : b.toNat ≤ 1 := by cases b <;> simp

theorem ink1_le (z : Nat → Bool) (W X y n : Nat) : ink1 z W X y n ≤ n := by
  have := sumN_le (fun i => (z (y * W + (X + i))).toNat) 1 (fun j => toNat_le _) n
  unfold ink1
  omega

theorem inkB_le (z : Nat → Bool) (W X Y p q : Nat) : inkB z W X Y p q ≤ q * p := sumN_le _ p (fun j => ink1_le _ _ _ _ _) q

theorem ink1_step (z : Nat → Bool) (W X y i : Nat) (h : X ≤ i) : ink1 z W X y (i + 1 - X) = ink1 z W X y (i - X) + (z (y * W + i)).toNat := by
  unfold ink1
  rw [show i + 1 - X = (i - X) + 1 by omega, sumN, show X + (i - X) = i by omega]

theorem inkB_step (z : Nat → Bool) (W X Y p k : Nat) (h : Y ≤ k) : inkB z W X Y p (k + 1 - Y) = inkB z W X Y p (k - Y) + ink1 z W X k p := by
  unfold inkB
  rw [show k + 1 - Y = (k - Y) + 1 by omega, sumN, show Y + (k - Y) = k by omega]

set_option maxHeartbeats 1000000 in
set_option maxRecDepth 100000 in
theorem inkOf_any (W H X Y p q g o c : Nat) (z : Nat → Bool) (w : World) (hW : W ≤ 4000) (hH : H ≤ 4000) (hx : X + p ≤ W) (hy : Y + q ≤ H)
    (hp : ∀ j, j < W * H → w.cell? ⟨g, o + j, none⟩ = some (.bool (z j))) :
    Calls Try.prog 70 #[.agg #[.int .i64 W, .int .i64 H, .slice (some ⟨g, o, none⟩) (W * H) c], .agg #[.int .i64 X, .int .i64 Y, .int .i64 p, .int .i64 q]] w fun e w' => e = .returned (.int .i64 ((inkB z W X Y p q : Nat) : Int)) ∧ Below w.heap.size w w' := by
  obtain ⟨w1, hw1⟩ : ∃ w1, w1 = (w.alloc (.cells #[.int .i64 W, .int .i64 H, .slice (some ⟨g, o, none⟩) (W * H) c] 24)).alloc (.cells #[.int .i64 X, .int .i64 Y, .int .i64 p, .int .i64 q] 29) := ⟨_, rfl⟩
  have B1 : Below w.heap.size w w1 := by rw [hw1]; exact below_alloc (new_below _ _) _
  have q0 : w1.cell? ⟨w.heap.size, 0, none⟩ = some (.int .i64 W) := by rw [hw1]; go_simp
  have q1 : w1.cell? ⟨w.heap.size, 1, none⟩ = some (.int .i64 H) := by rw [hw1]; go_simp
  have q2 : w1.cell? ⟨w.heap.size, 2, none⟩ = some (.slice (some ⟨g, o, none⟩) (W * H) c) := by rw [hw1]; go_simp
  have x0 : w1.cell? ⟨w.heap.size + 1, 0, none⟩ = some (.int .i64 X) := by rw [hw1]; go_simp
  have x1 : w1.cell? ⟨w.heap.size + 1, 1, none⟩ = some (.int .i64 Y) := by rw [hw1]; go_simp
  have x2 : w1.cell? ⟨w.heap.size + 1, 2, none⟩ = some (.int .i64 p) := by rw [hw1]; go_simp
  have x3 : w1.cell? ⟨w.heap.size + 1, 3, none⟩ = some (.int .i64 q) := by rw [hw1]; go_simp
  have HC := Lib.hid (fun j hj => cell_later B1 (hp j hj))
  have HB1 := Lib.hid B1
  clear hp B1
  go_enter Try.func70, Try.ntmps70
  go_upto_region 3 with fail
  rw [← hw1]
  clear hw1
  go_wp2_with fail
  go_loopw [5, 6] (fun n y wr => ∃ k N : Nat, Y ≤ k ∧ k ≤ Y + q ∧ y = .int .i64 k ∧ n = .int .i64 N ∧ N ≤ 16000000 ∧ Hid (N = inkB z W X Y p (k - Y)) ∧ Below w1.heap.size w1 wr) (fun _ y _ => Y + q - (intOf y).toNat)
  case atStart => exact ⟨Y, 0, Nat.le_refl _, by omega, rfl, rfl, by omega, Lib.hid (by simp [inkB, sumN]), Below.refl _ _⟩
  case round =>
    obtain ⟨k, N, hk1, hk2, rfl, rfl, hN1, HN, hb⟩ := hrel
    have c0 := cell_later hb q0
    have c1 := cell_later hb q1
    have c2 := cell_later hb q2
    have d0 := cell_later hb x0
    have d1 := cell_later hb x1
    have d2 := cell_later hb x2
    have d3 := cell_later hb x3
    by_cases hlt : k < Y + q
    · obtain ⟨wo, rfl⟩ : ∃ wo : World, wo = wr := ⟨_, rfl⟩
      have hNb := inkB_le z W X Y p (k - Y)
      have hNc := Nat.mul_le_mul (show k - Y ≤ 3999 by omega) (show p ≤ 4000 by omega)
      rw [← HN.out] at hNb
      have hN2 : N ≤ 15996000 := by omega
      have hd : decide ((k : Int) < (Y : Int) + (q : Int)) = true := by simp; omega
      clear hNb hNc
      go_wp2_with fail
      go_loopw [5, 7] (fun n x wr => ∃ i M : Nat, X ≤ i ∧ i ≤ X + p ∧ x = .int .i64 i ∧ n = .int .i64 M ∧ M ≤ N + (i - X) ∧ Hid (M = N + ink1 z W X k (i - X)) ∧ Below w1.heap.size w1 wr) (fun _ x _ => X + p - (intOf x).toNat)
      case atStart => exact ⟨X, N, Nat.le_refl _, by omega, rfl, rfl, by omega, Lib.hid (by simp [ink1, sumN]), hb⟩
      case round =>
        obtain ⟨i, M, hi1, hi2, rfl, rfl, hM1, HM, hbr⟩ := hrel
        clear c0 c1 c2 d0 d1 d2 d3
        have c0 := cell_later hbr q0
        have c1 := cell_later hbr q1
        have c2 := cell_later hbr q2
        have d0 := cell_later hbr x0
        have d1 := cell_later hbr x1
        have d2 := cell_later hbr x2
        have d3 := cell_later hbr x3
        have HBR := Lib.hid hbr
        clear hbr
        have l0 := World.block_lt_of_cell? _ _ c0
        have l1 := World.block_lt_of_cell? _ _ d0
        simp only at l0 l1
        by_cases hlti : i < X + p
        · have hfit := row_fits (show k < H by omega) (show i + 1 ≤ W by omega)
          obtain ⟨t, ht⟩ : ∃ t, t = z (k * W + i) := ⟨_, rfl⟩
          have HA := Lib.hid (at_in W H g o c i k t wr (by omega) (by omega) (by omega) (by omega) (by rw [ht]; exact cell_later HBR.out (HC.out _ (by omega))))
          have hst := Lib.hid (ink1_step z W X k i hi1)
          have HT := Lib.hid ht
          clear hfit ht
          cases t
          · go_wp2_with (go_at_call 41; refine HA.out.mono ?_; rintro e wq ⟨rfl, hbq⟩)
            go_roundw
            case rel =>
             exact ⟨i + 1, M, by omega, by omega, by go_num, rfl, by omega, Lib.hid (by rw [hst.out, ← HT.out, HM.out]; simp), HBR.out.trans (hbq.mono HBR.out.size)⟩
            case measure => simp [intOf]; omega
          · go_wp2_with (go_at_call 41; refine HA.out.mono ?_; rintro e wq ⟨rfl, hbq⟩)
            go_roundw
            case rel => exact ⟨i + 1, M + 1, by omega, by omega, by go_num, by go_num, by omega, Lib.hid (by rw [hst.out, ← HT.out, HM.out]; simp; omega), HBR.out.trans (hbq.mono HBR.out.size)⟩
            case measure => simp [intOf]; omega
        · have hst := Lib.hid (inkB_step z W X Y p k hk1)
          have hie := Lib.hid (show i - X = p by omega)
          go_wp2_with fail
          go_roundw
          case rel => exact ⟨k + 1, M, by omega, by omega, by go_num, rfl, by omega, Lib.hid (by rw [hst.out, ← HN.out, HM.out, hie.out]), HBR.out⟩
          case measure => simp [intOf]; omega
    · have hke := Lib.hid (show k - Y = q by omega)
      have HB := Lib.hid hb
      clear hb
      go_wp2_with fail
      go_ret
      exact ⟨ret_int (by rw [HN.out, hke.out]), below_step HB1.out HB.out⟩

end Go.Proofs.Ytcpgnfbjdokdcaa

namespace Go.Proofs.Ytcpgnfbjdokdcaa
open Go.RowKit
set_option linter.unusedSimpArgs false
set_option linter.unusedVariables false

theorem ink_badPage (a b X Y bw bh : Int) (p : Option Addr) (n c : Nat) (w : World) (h : pageErr a b n ≠ 0) :
    Calls Try.prog 69 #[.agg #[.int .i64 a, .int .i64 b, .slice p n c], .agg #[.int .i64 X, .int .i64 Y, .int .i64 bw, .int .i64 bh]] w fun e w' => e = .returned (.tuple #[.int .i64 0, .int .i64 (pageErr a b n)]) ∧ Below w.heap.size w w' := by
  have h' : (pageErr a b n != 0) = true := by simpa using h
  clear h
  go_enter Try.func69, Try.ntmps69
  go_wp2_with ((go_at_call 13; refine (checkBits_any _ _ _ _ _ _).mono ?_; rintro e w' ⟨rfl, rfl⟩))
  go_ret2
  exact ⟨rfl, below_alloc (below_alloc (new_below _ _) _) _⟩

set_option maxRecDepth 100000 in
theorem ink_badBox (W H : Nat) (X Y bw bh : Int) (p : Option Addr) (n c : Nat) (w : World) (h : pageErr W H n = 0) (hs : sizeErr W H = 0) (hb : ¬ InP X Y bw bh W H) :
    Calls Try.prog 69 #[.agg #[.int .i64 W, .int .i64 H, .slice p n c], .agg #[.int .i64 X, .int .i64 Y, .int .i64 bw, .int .i64 bh]] w fun e w' => e = .returned (.tuple #[.int .i64 0, .int .i64 13]) ∧ Below w.heap.size w w' := by
  have hz := (sizeErr_zero hs).1
  have HB := Lib.hid hb
  clear hb hs
  go_enter Try.func69, Try.ntmps69
  go_wp2_with (first | (go_at_call 13; refine (checkBits_any _ _ _ _ _ _).mono ?_; rintro e w' ⟨rfl, rfl⟩) | (go_at_call 96; refine (checkBox_no X Y bw bh W H _ (by omega) (by omega) HB.out).mono ?_; rintro e w' ⟨rfl, rfl⟩))
  go_ret2
  exact ⟨rfl, below_alloc (below_alloc (below_alloc (new_below _ _) _) _) _⟩

set_option maxHeartbeats 1000000 in
set_option maxRecDepth 100000 in
theorem ink_ok (W H X Y p q g o c : Nat) (z : Nat → Bool) (w : World) (hs : sizeErr W H = 0) (hx : X + p ≤ W) (hy : Y + q ≤ H) (hb1 : 1 ≤ p) (hb2 : 1 ≤ q)
    (hp : ∀ j, j < W * H → w.cell? ⟨g, o + j, none⟩ = some (.bool (z j))) :
    Calls Try.prog 69 #[.agg #[.int .i64 W, .int .i64 H, .slice (some ⟨g, o, none⟩) (W * H) c], .agg #[.int .i64 X, .int .i64 Y, .int .i64 p, .int .i64 q]] w fun e w' => e = .returned (.tuple #[.int .i64 ((inkB z W X Y p q : Nat) : Int), .int .i64 0]) ∧ Below w.heap.size w w' := by
  obtain ⟨hz, z0, z1⟩ := sizeErr_zero hs
  have hpe : pageErr W H (W * H) = 0 := by unfold pageErr; rw [if_pos hs, if_pos (by simp [Int.natCast_mul])]
  have hin : InP (X : Int) (Y : Int) (p : Int) (q : Int) (W : Int) (H : Int) := ⟨⟨by omega, by omega⟩, ⟨by omega, by omega⟩, ⟨by omega, by omega⟩, ⟨by omega, by omega⟩⟩
  obtain ⟨w1, hw1⟩ : ∃ w1, w1 = (((w.alloc (.cells #[.int .i64 W, .int .i64 H, .slice (some ⟨g, o, none⟩) (W * H) c] 24)).alloc (.cells #[.int .i64 X, .int .i64 Y, .int .i64 p, .int .i64 q] 29)).alloc (.cells #[.int .i64 W, .int .i64 H, .slice (some ⟨g, o, none⟩) (W * H) c] 24)).alloc (.cells #[.int .i64 X, .int .i64 Y, .int .i64 p, .int .i64 q] 29) := ⟨_, rfl⟩
  have B1 : Below w.heap.size w w1 := by rw [hw1]; exact below_alloc (below_alloc (below_alloc (new_below _ _) _) _) _
  have q0 : w1.cell? ⟨w.heap.size, 0, none⟩ = some (.int .i64 W) := by rw [hw1]; go_simp
  have q1 : w1.cell? ⟨w.heap.size, 1, none⟩ = some (.int .i64 H) := by rw [hw1]; go_simp
  have q2 : w1.cell? ⟨w.heap.size, 2, none⟩ = some (.slice (some ⟨g, o, none⟩) (W * H) c) := by rw [hw1]; go_simp
  have x0 : w1.cell? ⟨w.heap.size + 1, 0, none⟩ = some (.int .i64 X) := by rw [hw1]; go_simp
  have x1 : w1.cell? ⟨w.heap.size + 1, 1, none⟩ = some (.int .i64 Y) := by rw [hw1]; go_simp
  have x2 : w1.cell? ⟨w.heap.size + 1, 2, none⟩ = some (.int .i64 p) := by rw [hw1]; go_simp
  have x3 : w1.cell? ⟨w.heap.size + 1, 3, none⟩ = some (.int .i64 q) := by rw [hw1]; go_simp
  have HC := Lib.hid (fun j hj => cell_later B1 (hp j hj))
  have HB1 := Lib.hid B1
  have HIN := Lib.hid hin
  have hz' : ((1 : Int) ≤ W ∧ (W : Int) ≤ 4000) ∧ (1 : Int) ≤ H ∧ (H : Int) ≤ 4000 := ⟨⟨hz.1, hz.2.1⟩, hz.2.2⟩
  clear hp B1 hin z0 z1 hs
  go_enter Try.func69, Try.ntmps69
  go_upto_region 9 with (first | (go_at_call 13; refine (checkBits_any _ _ _ _ _ _).mono ?_; rintro e w' ⟨rfl, rfl⟩) | (go_at_call 96; refine (checkBox_yes X Y p q W H _ hz'.1 hz'.2 HIN.out).mono ?_; rintro e w' ⟨rfl, rfl⟩))
  rw [← hw1]
  clear hw1 hpe
  go_wp2_with fail
  go_loop [8, 9] (fun n y => ∃ k N : Nat, Y ≤ k ∧ k ≤ Y + q ∧ y = .int .i64 k ∧ n = .int .i64 N ∧ N ≤ 16000000 ∧ Hid (N = inkB z W X Y p (k - Y))) (fun _ y => Y + q - (intOf y).toNat)
  case atStart => exact ⟨Y, 0, Nat.le_refl _, by omega, rfl, rfl, by omega, Lib.hid (by simp [inkB, sumN])⟩
  case round =>
    obtain ⟨k, N, hk1, hk2, rfl, rfl, hN1, HN⟩ := hrel
    by_cases hlt : k < Y + q
    · have hNb := inkB_le z W X Y p (k - Y)
      have hNc := Nat.mul_le_mul (show k - Y ≤ 3999 by omega) (show p ≤ 4000 by omega)
      rw [← HN.out] at hNb
      have hN2 : N ≤ 15996000 := by omega
      have hd : decide ((k : Int) < (Y : Int) + (q : Int)) = true := by simp; omega
      clear hNb hNc
      go_wp2_with fail
      go_loop [8, 10] (fun n x => ∃ i M : Nat, X ≤ i ∧ i ≤ X + p ∧ x = .int .i64 i ∧ n = .int .i64 M ∧ M ≤ N + (i - X) ∧ Hid (M = N + ink1 z W X k (i - X))) (fun _ x => X + p - (intOf x).toNat)
      case atStart => exact ⟨X, N, Nat.le_refl _, by omega, rfl, rfl, by omega, Lib.hid (by simp [ink1, sumN])⟩
      case round =>
        obtain ⟨i, M, hi1, hi2, rfl, rfl, hM1, HM⟩ := hrel
        by_cases hlti : i < X + p
        · have hfit := row_fits (show k < H by omega) (show i + 1 ≤ W by omega)
          have hpx := HC.out (k * W + i) (by omega)
          obtain ⟨t, ht⟩ : ∃ t, t = z (k * W + i) := ⟨_, rfl⟩
          rw [← ht] at hpx
          have hst := Lib.hid (ink1_step z W X k i hi1)
          have HT := Lib.hid ht
          have v0 : (0 : Int) ≤ (k : Int) * (W : Int) := Int.mul_nonneg (by omega) (by omega)
          have v1 : (k : Int) * (W : Int) + (i : Int) < (W : Int) * (H : Int) := by rw [← Int.natCast_mul, ← Int.natCast_mul]; omega
          have v2 : (k : Int) * (W : Int) + (i : Int) < ((W * H : Nat) : Int) := by rw [← Int.natCast_mul]; omega
          have v3 : (W : Int) * (H : Int) ≤ 16000000 := by
            have := Nat.mul_le_mul (show W ≤ 4000 by omega) (show H ≤ 4000 by omega)
            rw [← Int.natCast_mul]; omega
          clear hfit ht
          cases t
          · go_wp2_with fail
            go_round
            case rel => exact ⟨i + 1, M, by omega, by omega, by go_num, rfl, by omega, Lib.hid (by rw [hst.out, ← HT.out, HM.out]; simp)⟩
            case measure => simp [intOf]; omega
          · go_wp2_with fail
            go_round
            case rel => exact ⟨i + 1, M + 1, by omega, by omega, by go_num, by go_num, by omega, Lib.hid (by rw [hst.out, ← HT.out, HM.out]; simp; omega)⟩
            case measure => simp [intOf]; omega
        · have hst := Lib.hid (inkB_step z W X Y p k hk1)
          have hie := Lib.hid (show i - X = p by omega)
          go_wp2_with fail
          go_round
          case rel => exact ⟨k + 1, M, by omega, by omega, by go_num, rfl, by omega, Lib.hid (by rw [hst.out, ← HN.out, HM.out, hie.out])⟩
          case measure => simp [intOf]; omega
    · have hke := Lib.hid (show k - Y = q by omega)
      go_wp2_with fail
      go_ret2
      exact ⟨by show Ending.returned (.tuple #[.int .i64 (N : Int), .int .i64 0]) = _; rw [HN.out, hke.out], HB1.out⟩

/-- What Ink tells: nothing with an error, else the ink of the box. -/
def InkIs (a b : Int) (n : Nat) (X Y bw bh : Int) (z : Nat → Bool) (k : Int) : Prop :=
  (cutErr a b n X Y bw bh ≠ 0 ∧ k = 0) ∨ (cutErr a b n X Y bw bh = 0 ∧ k = ((inkB z a.toNat X.toNat Y.toNat bw.toNat bh.toNat : Nat) : Int))

theorem ink_any (a b X Y bw bh : Int) (s : Option Addr) (n c : Nat) (z : Nat → Bool) (w : World) (hs : IsBools w s n c z) :
    Calls Try.prog 69 #[.agg #[.int .i64 a, .int .i64 b, .slice s n c], .agg #[.int .i64 X, .int .i64 Y, .int .i64 bw, .int .i64 bh]] w fun e w' =>
      ∃ k, e = .returned (.tuple #[.int .i64 k, .int .i64 (cutErr a b n X Y bw bh)]) ∧ InkIs a b n X Y bw bh z k ∧ Below w.heap.size w w' := by
  by_cases h : pageErr a b n = 0
  · obtain ⟨W, H, rfl, rfl, hn, w1, w2, h1, h2, hN, he⟩ := page_nat h
    by_cases hb : InP X Y bw bh W H
    · have hE : cutErr W H n X Y bw bh = 0 := by unfold cutErr; rw [if_pos h, if_pos hb]
      obtain ⟨x, y, p, q, rfl, rfl, rfl, rfl, e1, e2, e3, e4⟩ := box_nat hb
      obtain ⟨g, o, rfl, hc⟩ := isBools_cells hs (by rw [hn]; exact Nat.mul_pos w1 h1)
      subst hn
      refine (ink_ok W H x y p q g o c z w he e1 e2 e3 e4 hc).mono ?_
      rintro e w' ⟨rfl, hbel⟩
      exact ⟨_, by rw [hE], .inr ⟨hE, by simp⟩, hbel⟩
    · have hE : cutErr W H n X Y bw bh = 13 := by unfold cutErr; rw [if_pos h, if_neg hb]
      refine (ink_badBox W H X Y bw bh s n c w h he hb).mono ?_
      rintro e w' ⟨rfl, hbel⟩
      exact ⟨0, by rw [hE], .inl ⟨by rw [hE]; decide, rfl⟩, hbel⟩
  · have hE : cutErr a b n X Y bw bh = pageErr a b n := by unfold cutErr; rw [if_neg h]
    refine (ink_badPage a b X Y bw bh s n c w h).mono ?_
    rintro e w' ⟨rfl, hbel⟩
    exact ⟨0, by rw [hE], .inl ⟨by rw [hE]; exact h, rfl⟩, hbel⟩

end Go.Proofs.Ytcpgnfbjdokdcaa
namespace Go.Proofs.Ytcpgnfbjdokdcaa
set_option linter.unusedSimpArgs false
set_option linter.unusedVariables false

/-- The sum of n values from k on. -/
def rowSum (P : Nat → Int) (k : Nat) : Nat → Int
  | 0 => 0
  | n + 1 => rowSum P k n + P (k + n)

/-- The sum of a rectangle of a page that is W wide: from (x, y) on, nx wide and ny high. -/
def rectSum (P : Nat → Int) (W y x nx : Nat) : Nat → Int
  | 0 => 0
  | n + 1 => rectSum P W y x nx n + rowSum P ((y + n) * W + x) nx

end Go.Proofs.Ytcpgnfbjdokdcaa
namespace Go.Proofs.Ytcpgnfbjdokdcaa
open Go.RowKit
set_option linter.unusedSimpArgs false
set_option linter.unusedVariables false

set_option maxRecDepth 100000 in
theorem equalInt_true (g1 o1 g2 o2 n c1 c2 : Nat) (z : Nat → Int) (w : World) (hn : n ≤ 100000000)
    (h1 : ∀ j, j < n → w.cell? ⟨g1, o1 + j, none⟩ = some (.int .i64 (z j))) (h2 : ∀ j, j < n → w.cell? ⟨g2, o2 + j, none⟩ = some (.int .i64 (z j))) :
    Calls Try.prog 60 #[.slice (some ⟨g1, o1, none⟩) n c1, .slice (some ⟨g2, o2, none⟩) n c2] w fun e w' => e = .returned (.bool true) ∧ ∃ q, w' = w.drewN q := by
  have H1 := Lib.hid h1
  have H2 := Lib.hid h2
  clear h1 h2
  go_enter Try.func60, Try.ntmps60
  go_wp2
  go_loopw [13] (fun i wr => ∃ k q : Nat, k ≤ n ∧ i = .int .i64 k ∧ wr = w.drewN q) (fun i _ => n - (intOf i).toNat)
  case atStart => exact ⟨0, 0, Nat.zero_le _, rfl, rfl⟩
  case round =>
    obtain ⟨k, q, hk, rfl, rfl⟩ := hrel
    by_cases hlt : k < n
    · have e1 := H1.out k hlt
      have e2 := H2.out k hlt
      generalize z k = x at e1 e2
      have i1 : (k : Int) < (n : Int) := by omega
      have i0 : (0 : Int) ≤ (k : Int) := by omega
      go_wp2
      go_quiet (fail)
      go_wp2
      go_roundw
      case rel => exact ⟨k + 1, _, by omega, by go_num, rfl⟩
      case measure => simp [intOf]; omega
    · go_wp2
      go_ret
      exact ⟨rfl, q, rfl⟩

end Go.Proofs.Ytcpgnfbjdokdcaa
