/-
  What pagesPrint_holds leans on: contracts of the functions that it calls.
-/
import Derived.Test.YtofcojcfcpfdmaaDoorRows
import Derived.WalkKit
import Derived.WalkSpells
import Derived.WalkLawsBesides
import Derived.Lib.Hide
import Derived.Deep.RegionHeld3
import Derived.Shelf.Abstract
import Derived.Shelf.Strings.Builder1
import Derived.Shelf.Strings.Search1
import Derived.Shelf.Strings.Search2
import Derived.Shelf.Strings.SlTrimAscii
import Derived.Test.YtofcojcfcpfdmaaDoorProg
import Derived.Lib.IndexLaws
import Derived.Lib.IndexBytes
import Derived.Lib.SlTrimSet
import Derived.Deep.QuietTactic
import Derived.BigQuiet
import Derived.Laws.EntriesVeiled
import Derived.Lib.OthersKept
import Derived.Deep.RegionLaw
import Derived.Deep.AppendLies
import Derived.Deep.DrawnRows
import Derived.RegionTactic
import Derived.ChangeAlike
import Derived.BigRegion
import Derived.Laws.RangeAny
import Derived.Test.YtofcojcfcpfdmaaDoorCPrint1
namespace Go.Proofs.YtofcojcfcpfdmaaDoor
open Go.RowKit
set_option linter.unusedSimpArgs false
set_option linter.unusedVariables false

def strLen : Value → Nat
  | .string s => s.size
  | _ => 0

theorem getD_byte (s : ByteArray) (k : Nat) (h : k < s.size) : s.data.toList.getD k 0 = s[k] := by
  rw [List.getD_eq_getElem?_getD, get_byte s k h]; rfl

set_option maxRecDepth 100000 in
theorem parse1_any (s : ByteArray) (W H x y tb wb : Nat) (w : World) (hs : s.size ≤ 40200) (hW : W ≤ 200) (hH : H ≤ 200) (hx : x < W) (hy : y < H) (hsz : H * (W + 1) = s.size)
    (h0 : w.cell? ⟨tb, 0, none⟩ = some (.string s)) (h1 : w.cell? ⟨wb, 0, none⟩ = some (.int .i64 W)) :
    Calls Tryd.prog 31 #[.int .i64 x, .int .i64 y, .pointer (some ⟨tb, 0, none⟩), .pointer (some ⟨wb, 0, none⟩)] w fun e w' => e = .returned (.bool (inkOf s.data.toList W x y)) ∧ Below w.heap.size w w' := by
  have hfit := row_fits (w := W + 1) (h := H) hy (show x + 1 ≤ W + 1 by omega)
  have hlt : y * (W + 1) + x < s.size := by rw [← hsz, Nat.mul_comm H]; omega
  have x0 : (0 : Int) ≤ (y : Int) * ((W : Int) + 1) := Int.mul_nonneg (by omega) (by omega)
  have x1 : (y : Int) * ((W : Int) + 1) + (x : Int) < (s.size : Int) := by
    have : ((y * (W + 1) + x : Nat) : Int) < (s.size : Int) := by omega
    simpa [Int.natCast_mul] using this
  have hg := getD_byte s (y * (W + 1) + x) hlt
  clear hfit hsz
  by_cases hk : (s[y * (W + 1) + x].toNat : Int) = 35
  · have hk' : ((s[y * (W + 1) + x].toNat : Int) == 35) = true := by simpa using hk
    have hv : inkOf s.data.toList W x y = true := by
      unfold inkOf
      rw [hg]
      exact decide_eq_true (UInt8.toNat_inj.mp (by have : ((35 : UInt8).toNat : Int) = 35 := rfl; omega))
    have HV := Lib.hid hv
    clear hv hk hg
    go_enter Tryd.func31, Tryd.ntmps31
    go_wp2
    go_ret
    exact ⟨by rw [HV.out]; rfl, Below.refl _ _⟩
  · have hk' : ((s[y * (W + 1) + x].toNat : Int) == 35) = false := by simpa using hk
    have hv : inkOf s.data.toList W x y = false := by
      unfold inkOf
      rw [hg]
      exact decide_eq_false (fun e => hk (by rw [e]; rfl))
    have HV := Lib.hid hv
    clear hv hk hg
    go_enter Tryd.func31, Tryd.ntmps31
    go_wp2
    go_ret
    exact ⟨by rw [HV.out]; rfl, Below.refl _ _⟩

/-- What Parse returns of a text. -/
def ParseR (s : ByteArray) (w : World) (e : Ending) (w' : World) : Prop :=
  ∃ i j sl n c, e = .returned (.tuple #[.agg #[.int .i64 i, .int .i64 j, .slice sl n c], .int .i64 (pAt s.data.toList), .int .i64 (pErr s.data.toList)]) ∧
    PgIs (pErr s.data.toList) (pW s.data.toList) (pOut s.data.toList).2 (inkOf s.data.toList (pW s.data.toList)) w' i j sl n c ∧ Below w.heap.size w w'

theorem parse_bad {s : ByteArray} {w w' : World} {E : Int} {h : Nat} (hp : pErr s.data.toList = E ∧ pAt s.data.toList = h) (hE : E ≠ 0) (hb : Below w.heap.size w w') :
    ParseR s w (.returned (.tuple #[.agg #[.int .i64 0, .int .i64 0, .slice none 0 0], .int .i64 h, .int .i64 E])) w' :=
  ⟨0, 0, none, 0, 0, by rw [hp.1, hp.2], .inl ⟨by rw [hp.1]; exact hE, rfl, rfl, rfl, rfl, rfl⟩, hb⟩

set_option maxHeartbeats 2000000 in
set_option maxRecDepth 100000 in
theorem parse_any (s : ByteArray) (w : World) (hs0 : s.size ≤ 9223372036854775807) : Calls Tryd.prog 10 #[.string s] w (ParseR s w) := by
  have hmf : ∀ (fn : Fn) (first cap : Array Value) (w : World), (Instr.makeFunc fn first cap).run Tryd.prog w = .ok (.func fn first cap) w := fun _ _ _ _ => rfl
  have hlen : s.data.toList.length = s.size := by simp
  by_cases hbig : 40200 < s.size
  · have HP := Lib.hid (pErr_large (l := s.data.toList) (by omega))
    clear hlen
    go_enter Tryd.func10, Tryd.ntmps10
    go_wp2_with fail
    refine bodyPost_ret (v := .tuple #[.agg #[.int .i64 0, .int .i64 0, .slice none 0 0], .int .i64 0, .int .i64 4]) (by simp [results, Tryd.results10, go_sem]) rfl ?_
    exact ⟨0, 0, none, 0, 0, by rw [HP.out.1, HP.out.2]; rfl, .inl ⟨by rw [HP.out.1]; decide, rfl, rfl, rfl, rfl, rfl⟩, below_alloc (new_below _ _) _⟩
  have hs : s.size ≤ 40200 := by omega
  have HLEN := Lib.hid hlen
  obtain ⟨wi, hwi⟩ : ∃ wi, wi = Lib.indexByte s.data.toList 10 := ⟨_, rfl⟩
  have hw0 : -1 ≤ wi := by rw [hwi]; exact Lib.indexByte_ge _ _
  have hw1 : wi ≤ 40200 := by
    rcases indexByte_cases s.data.toList with h | ⟨i, h⟩
    · omega
    · have := indexByte_lt h; omega
  obtain ⟨W, hW⟩ : ∃ W, W = pW s.data.toList := ⟨_, rfl⟩
  have hWi : W = wi.toNat := by rw [hW, hwi]; rfl
  have hidx := Tryd.strings_IndexByte s 10 (w.alloc (.cells #[.string s] 9) |>.alloc (.cells #[.int .i64 0, .int .i64 0, .slice none 0 0] 24))
  have e10 : (10 : Int).toNat.toUInt8 = 10 := rfl
  rw [e10, ← hwi] at hidx
  have HIDX := Lib.hid hidx
  have HW := Lib.hid hW
  have HWI := Lib.hid hWi
  have HWX := Lib.hid hwi
  have HBIG := Lib.hid (show ¬ 40200 < s.data.toList.length by omega)
  clear hidx hW hWi hwi hlen hs0 e10
  go_enter Tryd.func10, Tryd.ntmps10
  go_wp2_with fail
  refine HIDX.out.mono ?_
  rintro e wx ⟨rfl, hwx⟩
  subst hwx
  go_wp2_with fail
  obtain ⟨w1, hw1⟩ : ∃ w1, w1 = ((w.alloc (.cells #[.string s] 9)).alloc (.cells #[.int .i64 0, .int .i64 0, .slice none 0 0] 24)).alloc (.cells #[.int .i64 wi] 3) := ⟨_, rfl⟩
  have B1 : Below w.heap.size w w1 := by rw [hw1]; exact below_alloc (below_alloc (new_below _ _) _) _
  have t0 : w1.cell? ⟨w.heap.size, 0, none⟩ = some (.string s) := by rw [hw1]; go_simp
  have u0 : w1.cell? ⟨w.heap.size + 1 + 1, 0, none⟩ = some (.int .i64 wi) := by rw [hw1]; go_simp
  have qb : w1.heap[w.heap.size + 1]? = some (.cells #[.int .i64 0, .int .i64 0, .slice none 0 0] 24 (0, 0)) := by
    rw [hw1, Below.heap_alloc _ _ _ (by simp)]
    simpa using heap_alloc_new (w.alloc (.cells #[.string s] 9)) (.cells #[.int .i64 0, .int .i64 0, .slice none 0 0] 24)
  rw [← hw1]
  clear hw1 HIDX
  have HB1 := Lib.hid B1
  have LQ := Lib.hid (Array.getElem?_eq_some_iff.1 qb).1
  have QB := Lib.hid qb
  clear B1 qb
  go_loopw [6, 7] (fun hv rv wr => ∃ (h : Nat) (r : ByteArray) (f : Nat), hv = .int .i64 h ∧ rv = .string r ∧ h + r.size ≤ 40200 ∧ r.size < f ∧ Hid (parseGo W f r.data.toList h = pOut s.data.toList ∧ h * (W + 1) + r.size = s.size ∧ (h = 0 ∧ r = s ∨ 1 ≤ W ∧ wi = (W : Int))) ∧ Below w1.heap.size w1 wr) (fun _ rv _ => strLen rv)
  case atStart => exact ⟨0, s, s.data.toList.length + 1, rfl, rfl, by omega, by simp, Lib.hid ⟨by unfold pOut; rw [HW.out], by simp, .inl ⟨rfl, rfl⟩⟩, Below.refl _ _⟩
  case round =>
    obtain ⟨h, r, f, rfl, rfl, hhr, hf, hg, hb⟩ := hrel
    have c0 := cell_later hb t0
    have c1 := cell_later hb u0
    have hqb := below_block hb QB.out
    obtain ⟨j0, j1, j2, r0, r1, r2⟩ := block3 hqb
    have HQB := Lib.hid hqb
    have HB := Lib.hid hb
    obtain ⟨f', rfl⟩ : ∃ f', f = f' + 1 := ⟨f - 1, by omega⟩
    have RL := Lib.hid (show r.data.toList.length = r.size by simp)
    clear hqb hb
    by_cases he : r.toList = []
    · have he' : r.toList.isEmpty = true := by rw [he]; rfl
      have hd : r.data.toList = [] := by rw [← Lib.toList_data]; exact he
      have hr0 : r.size = 0 := by rw [← RL.out, hd]; rfl
      have HO := Lib.hid (show pOut s.data.toList = (true, h) by rw [← hg.out.1, parseGo_end hd])
      have HSZ := Lib.hid (show h * (W + 1) = s.size by have := hg.out.2.1; omega)
      have HE := Lib.hid hr0
      clear he hd hr0
      by_cases hh : h = 0
      · subst hh
        have HP := Lib.hid (pErr_empty HBIG.out HO.out)
        go_wp2_with fail
        exact bodyPost_ret (v := .tuple #[.agg #[.int .i64 0, .int .i64 0, .slice none 0 0], .int .i64 0, .int .i64 9]) (by simp [results, Tryd.results10, go_sem, j0, j1, j2]) rfl (parse_bad (h := 0) HP.out (by decide) (below_far3 (below_step HB1.out HB.out) (by omega)))
      · obtain ⟨hW1, hwW⟩ : 1 ≤ W ∧ wi = (W : Int) := hg.out.2.2.resolve_left (fun k => hh k.1)
        subst hwW
        have hh0 : ((h : Int) == 0) = false := by simpa using hh
        have hh1 : 1 ≤ h := by omega
        by_cases hbig2 : 200 < W ∨ 200 < h
        · have HP := Lib.hid (pErr_wide HBIG.out HO.out hh (by rw [← HW.out]; exact hbig2))
          clear hh
          by_cases hb1 : 200 < W
          · clear hbig2
            go_wp2_with fail
            exact bodyPost_ret (v := .tuple #[.agg #[.int .i64 0, .int .i64 0, .slice none 0 0], .int .i64 0, .int .i64 4]) (by simp [results, Tryd.results10, go_sem, j0, j1, j2]) rfl (parse_bad (h := 0) HP.out (by decide) (below_far3 (below_step HB1.out HB.out) (by omega)))
          · have hb2 : 200 < h := hbig2.resolve_left hb1
            have hb3 : W ≤ 200 := by omega
            clear hbig2 hb1
            go_wp2_with fail
            exact bodyPost_ret (v := .tuple #[.agg #[.int .i64 0, .int .i64 0, .slice none 0 0], .int .i64 0, .int .i64 4]) (by simp [results, Tryd.results10, go_sem, j0, j1, j2]) rfl (parse_bad (h := 0) HP.out (by decide) (below_far3 (below_step HB1.out HB.out) (by omega)))
        · have HP := Lib.hid (pErr_ok HBIG.out HO.out hh (by rw [← HW.out]; exact hbig2))
          have hb3 : W ≤ 200 := by omega
          have hb4 : h ≤ 200 := by omega
          have hN := Nat.mul_le_mul hb3 hb4
          have HN := Lib.hid hN
          clear hbig2 hh hN
          go_wp2_with fail
          refine (fillBool_any W h 31 _ (inkOf s.data.toList W) wr hW1 (by omega) (by omega) (by have := HN.out; omega) (Go.Proofs.enters_of Tryd.func31 (by kernel_rfl) rfl) ?_).mono ?_
          · intro x y wx hx hy hbx
            exact parse1_any s W h x y w.heap.size (w.heap.size + 1 + 1) wx hs hb3 hb4 hx hy HSZ.out (cell_later hbx c0) (cell_later hbx c1)
          · rintro e w5 ⟨v, rfl, hown, hb5⟩
            obtain ⟨k0, k1, k2, _, _, _⟩ := block3 (below_block hb5 HQB.out)
            have hpos := Nat.mul_pos hW1 hh1
            obtain ⟨gp, cp, rfl⟩ : ∃ g c, v = .slice (some ⟨g, 0, none⟩) (W * h) c := by
              rcases hown.2 with ⟨_, h0⟩ | ⟨g, c, cur, rfl, _⟩
              · omega
              · exact ⟨g, c, rfl⟩
            have hgb : wr.heap.size ≤ gp := (hown.lt gp rfl).1
            have hz : ∀ j, j < W * h → w5.cell? ⟨gp, 0 + j, none⟩ = some (.bool (inkOf s.data.toList W (j % W) (j / W))) := fun j hj => by
              rw [Nat.zero_add, hown.cellAt j (by omega)]; simp [places, List.getElem?_range hj]
            have d1 := cell_later hb5 c1
            have F := Lib.hid hz
            have G := Lib.hid hb5
            have HG := Lib.hid hgb
            clear hown hb5 hz hgb hpos
            go_wp2_with fail
            refine bodyPost_ret (v := .tuple #[.agg #[.int .i64 W, .int .i64 h, .slice (some ⟨gp, 0, none⟩) (W * h) cp], .int .i64 0, .int .i64 0]) (by simp [results, Tryd.results10, go_sem, k0, k1, k2]) rfl ?_
            have hl1 := LQ.out
            have hl2 := HB.out.size
            have hl3 := HG.out
            refine ⟨(W : Int), (h : Int), some ⟨gp, 0, none⟩, W * h, cp, by rw [HP.out.1, HP.out.2]; rfl, .inr ⟨HP.out.1, by rw [← HW.out], by rw [HO.out], by rw [← HW.out, HO.out], gp, rfl, fun j hj => ?_⟩, below_far3 (below_step (below_step HB1.out HB.out) G.out) (by omega)⟩
            rw [← HW.out]
            exact cell_far3 (by simp; omega) (F.out j hj)
    · have he' : r.toList.isEmpty = false := by simpa using he
      have hd : r.data.toList ≠ [] := by rw [← Lib.toList_data]; exact he
      have HD := Lib.hid hd
      clear he hd
      rcases indexByte_cases r.data.toList with hi | ⟨i, hi⟩
      · have HO := Lib.hid (show pOut s.data.toList = (false, h) by rw [← hg.out.1, parseGo_bad HD.out (by unfold lineB; rw [hi, decide_eq_false (by omega)]; rfl)])
        have HP := Lib.hid (pErr_bad HBIG.out HO.out)
        have HI := Lib.hid hi
        clear hi
        go_wp2_with fail
        refine (cut_none r wr (by omega) HI.out).mono ?_
        rintro e w2 ⟨rfl, rfl⟩
        go_wp2_with fail
        exact bodyPost_ret (v := .tuple #[.agg #[.int .i64 0, .int .i64 0, .slice none 0 0], .int .i64 h, .int .i64 8]) (by simp [results, Tryd.results10, go_sem, j0, j1, j2]) rfl (parse_bad HP.out (by decide) (below_far3 (below_step HB1.out HB.out) (by omega)))
      · have hir : i < r.size := by have := indexByte_lt hi; rw [RL.out] at this; exact this
        have HI := Lib.hid hi
        by_cases hiw : (i : Int) = wi
        · have hWi : W = i := by have := HWI.out; omega
          cases hrow : rowB (r.data.toList.take W)
          · have HO := Lib.hid (show pOut s.data.toList = (false, h) by rw [← hg.out.1, parseGo_bad HD.out (by unfold lineB; rw [hrow, Bool.and_false])])
            have HP := Lib.hid (pErr_bad HBIG.out HO.out)
            have HR := Lib.hid hrow
            have hne : ((i : Int) != wi) = false := by simpa using hiw
            have HIW := Lib.hid hiw
            have HWi := Lib.hid hWi
            clear hi hrow hiw hWi
            go_wp2_with fail
            refine (cut_some r i wr (by omega) HI.out hir).mono ?_
            rintro e w2 ⟨a, b, ha, hz, hbb, hy, rfl, q, rfl⟩
            have HA := Lib.hid ha
            have HY := Lib.hid hy
            have hzi : (a.size : Int) = (i : Int) := by omega
            have hna : ((a.size : Int) != wi) = false := by rw [hzi]; exact hne
            have HRA := Lib.hid (show rowB a.data.toList = false by rw [HA.out, ← HWi.out]; exact HR.out)
            have hsa : a.size ≤ 1000000 := by omega
            clear ha hbb hy hz hzi hne
            go_wp2_with (go_at_call 29; refine (isRow_any a _ hsa).mono ?_; rintro e w3 ⟨rfl, rfl⟩; rw [HRA.out])
            exact bodyPost_ret (v := .tuple #[.agg #[.int .i64 0, .int .i64 0, .slice none 0 0], .int .i64 h, .int .i64 8]) (by simp [results, Tryd.results10, go_sem, j0, j1, j2]) rfl (parse_bad HP.out (by decide) (below_far3 (below_drewN (below_step HB1.out HB.out) _) (by omega)))
          · have hW1 : 1 ≤ W := by
              have := rowB_ne hrow
              rcases Nat.eq_zero_or_pos W with e | e
              · rw [e] at this; simp at this
              · exact e
            have HN := Lib.hid (show parseGo W f' (r.data.toList.drop (W + 1)) (h + 1) = pOut s.data.toList by
              rw [← hg.out.1, parseGo_good HD.out (by unfold lineB; rw [hrow, HI.out, hWi, decide_eq_true rfl]; rfl)])
            have HR := Lib.hid hrow
            have hne : ((i : Int) != wi) = false := by simpa using hiw
            have HIW := Lib.hid hiw
            have HWi := Lib.hid hWi
            clear hi hrow hiw hWi
            go_wp2_with fail
            refine (cut_some r i wr (by omega) HI.out hir).mono ?_
            rintro e w2 ⟨a, b, ha, hz, hbb, hy, rfl, q, rfl⟩
            have HA := Lib.hid ha
            have HBB := Lib.hid hbb
            have HY := Lib.hid hy
            have hzi : (a.size : Int) = (i : Int) := by omega
            have hna : ((a.size : Int) != wi) = false := by rw [hzi]; exact hne
            have HRA := Lib.hid (show rowB a.data.toList = true by rw [HA.out, ← HWi.out]; exact HR.out)
            have hsa : a.size ≤ 1000000 := by omega
            have hsb : b.size < r.size := by omega
            clear ha hbb hy hz hzi hne
            go_wp2_with (go_at_call 29; refine (isRow_any a _ hsa).mono ?_; rintro e w3 ⟨rfl, rfl⟩; rw [HRA.out])
            go_roundw
            case rel =>
              refine ⟨h + 1, b, f', by go_num, rfl, by omega, by omega, Lib.hid ⟨?_, ?_, .inr ⟨hW1, ?_⟩⟩, below_drewN HB.out _⟩
              · rw [HBB.out, ← HWi.out]; exact HN.out
              · have h1 := hg.out.2.1
                have h2 := HY.out
                have h3 := HWi.out
                rw [Nat.add_mul, Nat.one_mul]
                omega
              · have h1 := HIW.out
                have h3 := HWi.out
                omega
            case measure => simp [strLen]; omega
        · have hline : lineB W r.data.toList = false := by
            unfold lineB
            rw [hi]
            by_cases e : (i : Int) = (W : Int)
            · have hw := HWI.out
              have hW0 : W = 0 := by omega
              rw [hW0]; simp [rowB]
            · rw [decide_eq_false e]; rfl
          have HO := Lib.hid (show pOut s.data.toList = (false, h) by rw [← hg.out.1, parseGo_bad HD.out hline])
          have HP := Lib.hid (pErr_bad HBIG.out HO.out)
          have hne : ((i : Int) != wi) = true := by simpa using hiw
          clear hi hiw hline
          go_wp2_with fail
          refine (cut_some r i wr (by omega) HI.out hir).mono ?_
          rintro e w2 ⟨a, b, ha, hz, hbb, hy, rfl, q, rfl⟩
          have hzi : (a.size : Int) = (i : Int) := by omega
          have hna : ((a.size : Int) != wi) = true := by rw [hzi]; exact hne
          clear ha hbb hy hz hzi hne
          go_wp2_with fail
          exact bodyPost_ret (v := .tuple #[.agg #[.int .i64 0, .int .i64 0, .slice none 0 0], .int .i64 h, .int .i64 8]) (by simp [results, Tryd.results10, go_sem, j0, j1, j2]) rfl (parse_bad HP.out (by decide) (below_far3 (below_drewN (below_step HB1.out HB.out) _) (by omega)))

end Go.Proofs.YtofcojcfcpfdmaaDoor
namespace Go.Proofs.YtofcojcfcpfdmaaDoor
open Go.RowKit
set_option linter.unusedSimpArgs false
set_option linter.unusedVariables false

theorem dropWhile_nil {α : Type} (p : α → Bool) (l : List α) : l.dropWhile p = [] ↔ l.all p = true := by
  induction l with
  | nil => simp
  | cons a l ih =>
    rw [List.dropWhile_cons]
    cases h : p a
    · simp [h]
    · simp [h, ih]

theorem contains_ok : (fun b => ([35, 46] : List UInt8).contains b) = okLetter := by
  funext b
  unfold okLetter
  simp [List.contains_eq_any_beq]
  rfl

theorem trim_nil (l : List UInt8) : Lib.trimS l [35, 46] = [] ↔ l.all okLetter = true := by
  unfold Lib.trimS Lib.trimLeftS Lib.trimRightS
  rw [contains_ok, dropWhile_nil]
  constructor
  · intro h
    rw [List.all_reverse] at h
    have e := List.takeWhile_append_dropWhile (p := okLetter) (l := l.reverse)
    have h2 : l.reverse.all okLetter = true := by
      rw [← e, List.all_append, h, Bool.and_true]
      exact List.all_takeWhile
    rwa [List.all_reverse] at h2
  · intro h
    rw [List.all_reverse]
    have h2 : l.reverse.all okLetter = true := by rw [List.all_reverse]; exact h
    rw [(dropWhile_nil okLetter l.reverse).2 h2]
    rfl

/-- What holds while a text is read: the result's variable is empty; the page's variable holds a width, a height, and a row of N pixels. -/
def PRel (w0 : World) (bw bh : Int) (W : Nat) (f : Nat → Nat → Bool) (N : Nat) (wr : World) (v : Value) : Prop :=
  wr.ownsRow (w0.heap.size + 2) 4 1 v N ((places W f N).map Value.bool) ∧ wr.heap[w0.heap.size]? = some (.cells #[.int .i64 0, .int .i64 0, .slice none 0 0] 24 (0, 0)) ∧
  wr.heap[w0.heap.size + 1]? = some (.cells #[.int .i64 bw, .int .i64 bh, v] 24 (0, 0)) ∧ Below w0.heap.size w0 wr

theorem PRel.later {w0 wr w' : World} {bw bh : Int} {W N : Nat} {f : Nat → Nat → Bool} {v : Value} (h : PRel w0 bw bh W f N wr v) (hb : Below wr.heap.size wr w') : PRel w0 bw bh W f N w' v :=
  ⟨below_owns h.1 hb, below_block hb h.2.1, below_block hb h.2.2.1, below_step h.2.2.2 hb⟩

theorem PRel.sized {w0 wr : World} {bw bh : Int} {W N : Nat} {f : Nat → Nat → Bool} {v : Value} (h : PRel w0 bw bh W f N wr v) (bw' bh' : Int) :
    PRel w0 bw' bh' W f N ((wr.setCell ⟨w0.heap.size + 1, 0, none⟩ (.int .i64 bw')).setCell ⟨w0.heap.size + 1, 1, none⟩ (.int .i64 bh')) v := by
  obtain ⟨h1, h2, h3, h4⟩ := h
  refine ⟨ownsRow_setCell_below (ownsRow_setCell_below h1 (by simp) _) (by simp) _, ?_, ?_, (h4.setCell (by simp) _).setCell (by simp) _⟩
  · rw [Below.heap_setCell _ _ _ _ (by simp), Below.heap_setCell _ _ _ _ (by simp)]; exact h2
  · have e1 := heap_setCell_same wr (w0.heap.size + 1) 0 _ 24 (.int .i64 bw') h3
    have e2 := heap_setCell_same _ (w0.heap.size + 1) 1 _ 24 (.int .i64 bh') e1
    simpa using e2

theorem PRel.iterAt {w0 wr : World} {bw bh : Int} {W N : Nat} {f : Nat → Nat → Bool} {v : Value} (h : PRel w0 bw bh W f N wr v) {k : Nat} {s : ByteArray} {pos : Nat} (hk : wr.heap[k]? = some (.stringIter s pos)) (hb : w0.heap.size ≤ k) (pos' : Nat) :
    PRel w0 bw bh W f N (wr.iterAt k s pos') v := by
  obtain ⟨h1, h2, h3, h4⟩ := h
  have n1 : w0.heap.size ≠ k := by intro e; rw [e, hk] at h2; cases h2
  have n2 : w0.heap.size + 1 ≠ k := by intro e; rw [e, hk] at h3; cases h3
  refine ⟨⟨h1.1, ?_⟩, (Lib.iterAt_other wr k _ s pos' n1).trans h2, (Lib.iterAt_other wr k _ s pos' n2).trans h3, Lib.below_iterAt h4 hb s pos'⟩
  rcases h1.2 with hn | ⟨g, cap, cur, hv, hbg, hg, rest⟩
  · exact .inl hn
  · have hkg : g ≠ k := by intro e; rw [e, hk] at hg; cases hg
    exact .inr ⟨g, cap, cur, hv, hbg, (Lib.iterAt_other wr k g s pos' hkg).trans hg, rest⟩

theorem PRel.stored {w0 wr w1 : World} {bw bh : Int} {W x y : Nat} {f : Nat → Nat → Bool} {v v' : Value} (hr : PRel w0 bw bh W f (y * W + x) wr v) (hx : x < W) (q : Bool) (hq : q = f x y)
    (hown : w1.ownsRow (w0.heap.size + 2) 4 1 v' (y * W + x + 1) ((places W f (y * W + x)).map Value.bool ++ [Value.bool q])) (hg : wr.grownBy w1 v.ownBlock) :
    PRel w0 bw bh W f (y * W + x + 1) (w1.setCell ⟨w0.heap.size + 1, 2, none⟩ v') v' := by
  obtain ⟨h1, h2, h3, h4⟩ := hr
  have hrow : ∀ k, v.ownBlock = some k → w0.heap.size + 2 ≤ k := fun k hk => (h1.lt k hk).1
  have n0 : some w0.heap.size ≠ v.ownBlock := fun e => by have := hrow _ e.symm; omega
  have n1 : some (w0.heap.size + 1) ≠ v.ownBlock := fun e => by have := hrow _ e.symm; omega
  refine ⟨?_, ?_, ?_, ?_⟩
  · rw [places_succ W f x y hx, List.map_append, ← hq]
    exact ownsRow_setCell_below hown (by simp) _
  · rw [Below.heap_setCell _ _ _ _ (by simp)]
    exact grown_block hg h2 n0
  · have := heap_setCell_same w1 (w0.heap.size + 1) 2 #[.int .i64 bw, .int .i64 bh, v] 24 v' (grown_block hg h3 n1)
    simpa using this
  · exact (h4.grown hg h4.size (fun k hk => by have := hrow k hk; omega)).setCell (by simp) _

end Go.Proofs.YtofcojcfcpfdmaaDoor
namespace Go.Proofs.YtofcojcfcpfdmaaDoor
open Go.RowKit
set_option linter.unusedSimpArgs false
set_option linter.unusedVariables false

theorem iterPosOf {w : World} {k : Nat} {s : ByteArray} {p : Nat} (h : w.heap[k]? = some (.stringIter s p)) : w.iterPos k = p := by simp [World.iterPos, h]

theorem lineB_not {W i : Nat} {r : List UInt8} (hi : Lib.indexByte r 10 = (i : Int)) (h : i ≠ W ∨ rowB (r.take i) = false) : lineB W r = false := by
  unfold lineB
  rw [hi]
  by_cases e : i = W
  · subst e
    rw [h.resolve_left (fun k => k rfl), Bool.and_false]
  · rw [decide_eq_false (by omega)]; rfl

set_option maxHeartbeats 4000000 in
set_option maxRecDepth 100000 in
theorem parsed_any (s : ByteArray) (w : World) (hs0 : s.size ≤ 9223372036854775807) : Calls Tryd.prog 13 #[.string s] w (ParseR s w) := by
  have hlen : s.data.toList.length = s.size := by simp
  by_cases hbig : 40200 < s.size
  · have HP := Lib.hid (pErr_large (l := s.data.toList) (by omega))
    clear hlen
    go_enter Tryd.func13, Tryd.ntmps13
    go_wp2_with fail
    exact bodyPost_ret (v := .tuple #[.agg #[.int .i64 0, .int .i64 0, .slice none 0 0], .int .i64 0, .int .i64 4]) (by simp [results, Tryd.results13, go_sem]) rfl (parse_bad (h := 0) HP.out (by decide) (new_below _ _))
  have hs : s.size ≤ 40200 := by omega
  have HLEN := Lib.hid hlen
  obtain ⟨W, hW⟩ : ∃ W, W = pW s.data.toList := ⟨_, rfl⟩
  have HW := Lib.hid hW
  have HBIG := Lib.hid (show ¬ 40200 < s.data.toList.length by omega)
  clear hW hlen hs0
  go_enter Tryd.func13, Tryd.ntmps13
  go_wp2_with fail
  obtain ⟨w1, hw1⟩ : ∃ w1, w1 = (w.alloc (.cells #[.int .i64 0, .int .i64 0, .slice none 0 0] 24)).alloc (.cells #[.int .i64 0, .int .i64 0, .slice none 0 0] 24) := ⟨_, rfl⟩
  have P1 : PRel w 0 0 W (inkOf s.data.toList W) 0 w1 (.slice none 0 0) := by
    refine ⟨by simpa [places] using World.ownsRow_nil _ _ _ _, ?_, ?_, by rw [hw1]; exact below_alloc (new_below _ _) _⟩
    · rw [hw1, Below.heap_alloc _ _ _ (by simp)]; exact heap_alloc_new _ _
    · rw [hw1]; simpa using heap_alloc_new (w.alloc (.cells #[.int .i64 0, .int .i64 0, .slice none 0 0] 24)) (.cells #[.int .i64 0, .int .i64 0, .slice none 0 0] 24)
  rw [← hw1]
  clear hw1
  have HP1 := Lib.hid P1
  clear P1
  go_loopw [0] (fun rv wr => ∃ (h : Nat) (r : ByteArray) (f : Nat) (bw : Int) (v : Value), rv = .string r ∧ h + r.size ≤ 40200 ∧ r.size < f ∧ 0 ≤ bw ∧ bw ≤ 40200 ∧ Hid (parseGo W f r.data.toList h = pOut s.data.toList ∧ h * (W + 1) + r.size = s.size ∧ r.data.toList = s.data.toList.drop (h * (W + 1)) ∧ (h = 0 ∧ r = s ∧ bw = 0 ∨ 1 ≤ h ∧ 1 ≤ W ∧ bw = (W : Int))) ∧ Hid (PRel w bw h W (inkOf s.data.toList W) (h * W) wr v)) (fun rv _ => strLen rv)
  case atStart => exact ⟨0, s, s.data.toList.length + 1, 0, .slice none 0 0, rfl, by omega, by simp, by omega, by omega, Lib.hid ⟨by unfold pOut; rw [HW.out], by simp, by simp, .inl ⟨rfl, rfl, rfl⟩⟩, Lib.hid (by simpa using HP1.out)⟩
  case round =>
    obtain ⟨h, r, f, bw, v, rfl, hhr, hf, hbw0, hbw1, hg, hR⟩ := hrel
    obtain ⟨wo, rfl⟩ : ∃ wo : World, wo = wr := ⟨_, rfl⟩
    obtain ⟨j0, j1, j2, r0, r1, r2⟩ := block3 hR.out.2.1
    obtain ⟨b0, b1, b2, z0, z1, z2⟩ := block3 hR.out.2.2.1
    have lb := World.block_lt_of_cell? _ _ b0
    simp only at lb
    obtain ⟨f', rfl⟩ : ∃ f', f = f' + 1 := ⟨f - 1, by omega⟩
    have RL := Lib.hid (show r.data.toList.length = r.size by simp)
    by_cases he : r.toList = []
    · have he' : r.toList.isEmpty = true := by rw [he]; rfl
      have hd : r.data.toList = [] := by rw [← Lib.toList_data]; exact he
      have hr0 : r.size = 0 := by rw [← RL.out, hd]; rfl
      have HO := Lib.hid (show pOut s.data.toList = (true, h) by rw [← hg.out.1, parseGo_end hd])
      have HE := Lib.hid hr0
      clear he hd hr0
      by_cases hh : h = 0
      · subst hh
        have HP := Lib.hid (pErr_empty HBIG.out HO.out)
        go_wp2_with fail
        exact bodyPost_ret (v := .tuple #[.agg #[.int .i64 0, .int .i64 0, .slice none 0 0], .int .i64 0, .int .i64 9]) (by simp [results, Tryd.results13, go_sem, j0, j1, j2]) rfl (parse_bad (h := 0) HP.out (by decide) (below_far3 hR.out.2.2.2 (Nat.le_refl _)))
      · obtain ⟨hh1, hW1, hwW⟩ : 1 ≤ h ∧ 1 ≤ W ∧ bw = (W : Int) := hg.out.2.2.2.resolve_left (fun k => hh k.1)
        subst hwW
        have hh0 : ((h : Int) == 0) = false := by simpa using hh
        by_cases hbig2 : 200 < W ∨ 200 < h
        · have HP := Lib.hid (pErr_wide HBIG.out HO.out hh (by rw [← HW.out]; exact hbig2))
          clear hh
          by_cases hb1 : 200 < h
          · clear hbig2
            go_wp2_with fail
            exact bodyPost_ret (v := .tuple #[.agg #[.int .i64 0, .int .i64 0, .slice none 0 0], .int .i64 0, .int .i64 4]) (by simp [results, Tryd.results13, go_sem, j0, j1, j2]) rfl (parse_bad (h := 0) HP.out (by decide) (below_far3 hR.out.2.2.2 (Nat.le_refl _)))
          · have hb2 : 200 < W := hbig2.resolve_right hb1
            have hb3 : h ≤ 200 := by omega
            clear hbig2 hb1
            go_wp2_with fail
            exact bodyPost_ret (v := .tuple #[.agg #[.int .i64 0, .int .i64 0, .slice none 0 0], .int .i64 0, .int .i64 4]) (by simp [results, Tryd.results13, go_sem, j0, j1, j2]) rfl (parse_bad (h := 0) HP.out (by decide) (below_far3 hR.out.2.2.2 (Nat.le_refl _)))
        · have HP := Lib.hid (pErr_ok HBIG.out HO.out hh (by rw [← HW.out]; exact hbig2))
          have hb3 : W ≤ 200 := by omega
          have hb4 : h ≤ 200 := by omega
          have hpos := Nat.mul_pos hh1 hW1
          obtain ⟨gp, cp, rfl⟩ : ∃ g c, v = .slice (some ⟨g, 0, none⟩) (h * W) c := by
            rcases hR.out.1.2 with ⟨_, h0⟩ | ⟨g, c, cur, rfl, _⟩
            · omega
            · exact ⟨g, c, rfl⟩
          have HG := Lib.hid (hR.out.1.lt gp rfl).1
          clear hbig2 hh hpos
          go_wp2_with fail
          refine bodyPost_ret (v := .tuple #[.agg #[.int .i64 W, .int .i64 h, .slice (some ⟨gp, 0, none⟩) (h * W) cp], .int .i64 0, .int .i64 0]) (by simp [results, Tryd.results13, go_sem, j0, j1, j2]) rfl ?_
          have hl3 := HG.out
          refine ⟨(W : Int), (h : Int), some ⟨gp, 0, none⟩, h * W, cp, by rw [HP.out.1, HP.out.2]; rfl, .inr ⟨HP.out.1, by rw [← HW.out], by rw [HO.out], by rw [← HW.out, HO.out, Nat.mul_comm], gp, rfl, fun j hj => ?_⟩, below_far3 hR.out.2.2.2 (Nat.le_refl _)⟩
          rw [← HW.out]
          refine cell_far3 (by simp; omega) ?_
          rw [Nat.zero_add, hR.out.1.cellAt j (by omega)]
          simp [places, List.getElem?_range hj]
    · have he' : r.toList.isEmpty = false := by simpa using he
      have hd : r.data.toList ≠ [] := by rw [← Lib.toList_data]; exact he
      have HD := Lib.hid hd
      clear he hd
      rcases indexByte_cases r.data.toList with hi | ⟨i, hi⟩
      · have HO := Lib.hid (show pOut s.data.toList = (false, h) by rw [← hg.out.1, parseGo_bad HD.out (by unfold lineB; rw [hi, decide_eq_false (by omega)]; rfl)])
        have HP := Lib.hid (pErr_bad HBIG.out HO.out)
        have HI := Lib.hid hi
        clear hi
        go_wp2_with fail
        refine (cut_none r wo (by omega) HI.out).mono ?_
        rintro e w2 ⟨rfl, rfl⟩
        go_wp2_with fail
        go_region
        go_wp2_with fail
        refine bodyPost_ret (v := .tuple #[.agg #[.int .i64 0, .int .i64 0, .slice none 0 0], .int .i64 h, .int .i64 8]) (by simp [results, Tryd.results13, go_sem, j0, j1, j2]) rfl (parse_bad HP.out (by decide) ?_)
        exact (below_far3 hR.out.2.2.2 (Nat.le_refl _)).drew
      · have hir : i < r.size := by have := indexByte_lt hi; rw [RL.out] at this; exact this
        have HI := Lib.hid hi
        have HBADO : lineB W r.data.toList = false → Hid (pErr s.data.toList = 8 ∧ pAt s.data.toList = h) := fun hl => Lib.hid (pErr_bad HBIG.out (by rw [← hg.out.1, parseGo_bad HD.out hl]))
        have HBO := Lib.hid HBADO
        clear hi HBADO
        go_wp2_with fail
        refine (cut_some r i wo (by omega) HI.out hir).mono ?_
        rintro e w2 ⟨a, b, ha, hz, hbb, hy, rfl, q, rfl⟩
        have HA := Lib.hid ha
        have HBB := Lib.hid hbb
        have HY := Lib.hid hy
        have hzi : (a.size : Int) = (i : Int) := by omega
        have HZI := Lib.hid hz
        have hsa : a.size ≤ 1000000 := by omega
        clear ha hbb hy hz
        have HR2 := Lib.hid (hR.out.later (below_drewN (Below.refl _ _) q))
        by_cases h0 : i = 0
        · have hae : a.toList.isEmpty = true := by rw [Lib.toList_data, HA.out, h0]; rfl
          have HPB := HBO.out (lineB_not HI.out (.inr (by rw [h0]; rfl)))
          obtain ⟨k0, k1, k2, s0, s1, s2⟩ := block3 HR2.out.2.1
          have HR3 := HR2
          clear h0 hzi
          go_wp2_with fail
          go_region
          go_wp2_with fail
          exact bodyPost_ret (v := .tuple #[.agg #[.int .i64 0, .int .i64 0, .slice none 0 0], .int .i64 h, .int .i64 8]) (by simp [results, Tryd.results13, go_sem, j0, j1, j2]) rfl (parse_bad HPB.out (by decide) (below_far3 HR3.out.2.2.2 (Nat.le_refl _)).drew)
        · have hae : a.toList.isEmpty = false := by
            rw [Lib.toList_data, HA.out]
            have hl : (r.data.toList.take i).length = i := by rw [List.length_take, RL.out]; omega
            cases hx : r.data.toList.take i with
            | nil => rw [hx] at hl; simp at hl; omega
            | cons _ _ => rfl
          obtain ⟨t, ht⟩ : ∃ t : ByteArray, t = ⟨(Lib.trimS a.data.toList [35, 46]).toArray⟩ := ⟨_, rfl⟩
          have htl : t.toList = Lib.trimS a.data.toList [35, 46] := by rw [Lib.toList_data, ht]
          have hrow : rowB (r.data.toList.take i) = a.data.toList.all okLetter := by
            unfold rowB
            rw [← HA.out, ← Lib.toList_data, hae]; rfl
          have HTC := Lib.hid (trim_row a (wo.drewN q) hsa)
          rw [← ht] at HTC
          cases hall : a.data.toList.all okLetter
          · have hte : t.toList.isEmpty = false := by
              cases hx : t.toList with
              | nil => rw [hx] at htl; rw [(trim_nil _).1 htl.symm] at hall; cases hall
              | cons _ _ => rfl
            have HPB := HBO.out (lineB_not HI.out (.inr (by rw [hrow, hall])))
            clear h0 htl hrow hall ht
            go_wp2_with (go_at_call 36; refine HTC.out.mono ?_; rintro e w3 ⟨rfl, hb3⟩; have HR3 := Lib.hid (HR2.out.later hb3); obtain ⟨k0, k1, k2, s0, s1, s2⟩ := block3 HR3.out.2.1; obtain ⟨d0, d1, d2, t0, t1, t2⟩ := block3 HR3.out.2.2.1; clear hb3)
            go_region
            go_wp2_with fail
            exact bodyPost_ret (v := .tuple #[.agg #[.int .i64 0, .int .i64 0, .slice none 0 0], .int .i64 h, .int .i64 8]) (by simp [results, Tryd.results13, go_sem, k0, k1, k2]) rfl (parse_bad HPB.out (by decide) (below_far3 HR3.out.2.2.2 (Nat.le_refl _)).drew)
          · have hte : t.toList.isEmpty = true := by rw [htl, (trim_nil _).2 hall]; rfl
            by_cases hcmp : 1 ≤ h ∧ i ≠ W
            · obtain ⟨hh1, hiW⟩ := hcmp
              have HPB := HBO.out (lineB_not HI.out (.inl hiW))
              have hbw : bw = (W : Int) := by
                rcases hg.out.2.2.2 with k | k
                · omega
                · exact k.2.2
              subst hbw
              have hne : ((a.size : Int) != (W : Int)) = true := by rw [hzi]; simpa using (by omega : ¬ (i : Int) = (W : Int))
              have hh2 : decide ((0 : Int) < (h : Int)) = true := decide_eq_true (by omega)
              have hh3 : 0 < h := hh1
              clear h0 htl hrow hall ht hiW hzi
              go_wp2_with (go_at_call 36; refine HTC.out.mono ?_; rintro e w3 ⟨rfl, hb3⟩; have HR3 := Lib.hid (HR2.out.later hb3); obtain ⟨k0, k1, k2, s0, s1, s2⟩ := block3 HR3.out.2.1; obtain ⟨d0, d1, d2, t0, t1, t2⟩ := block3 HR3.out.2.2.1; clear hb3)
              go_region
              go_wp2_with fail
              exact bodyPost_ret (v := .tuple #[.agg #[.int .i64 0, .int .i64 0, .slice none 0 0], .int .i64 h, .int .i64 8]) (by simp [results, Tryd.results13, go_sem, k0, k1, k2]) rfl (parse_bad HPB.out (by decide) (below_far3 HR3.out.2.2.2 (Nat.le_refl _)).drew)
            · have hiW : i = W := by
                rcases hg.out.2.2.2 with ⟨_, k2, _⟩ | ⟨k1, _, _⟩
                · have := HI.out
                  rw [k2] at this
                  have := HW.out
                  unfold pW at this
                  omega
                · exact Classical.byContradiction fun e => hcmp ⟨k1, e⟩
              subst hiW
              have hW1 : 1 ≤ i := by omega
              have HN := Lib.hid (show parseGo i f' (r.data.toList.drop (i + 1)) (h + 1) = pOut s.data.toList by
                rw [← hg.out.1, parseGo_good HD.out (by unfold lineB; rw [hrow, hall, HI.out, decide_eq_true rfl]; rfl)])
              have HALL := Lib.hid hall
              have hbw : h = 0 ∨ 1 ≤ h ∧ bw = (i : Int) := by
                rcases hg.out.2.2.2 with k | k
                · exact .inl k.1
                · exact .inr ⟨k.1, k.2.2⟩
              clear h0 htl hrow hall ht hcmp
              have HMETA : ∀ pos, pos < a.size → ∃ q : Bool, q = inkOf s.data.toList i pos h ∧ (∀ hp : pos < a.size, ((a[pos].toNat : Int) == 35) = q ∧ a[pos].toNat < 128) := fun pos hp => by
                refine ⟨_, rfl, fun hp => ?_⟩
                have e1 : s.data.toList.getD (h * (i + 1) + pos) 0 = a[pos] := by
                  rw [← getD_byte a pos hp, HA.out, hg.out.2.2.1]
                  have : pos < i := by have := HZI.out; omega
                  simp [List.getD_eq_getElem?_getD, List.getElem?_take, this, List.getElem?_drop]
                have hok : okLetter a[pos] = true := by
                  have := List.all_eq_true.1 HALL.out a[pos] (by have := get_byte a pos hp; exact List.mem_of_getElem? this)
                  exact this
                refine ⟨?_, ?_⟩
                · unfold inkOf
                  rw [e1, Bool.eq_iff_iff, decide_eq_true_iff, beq_iff_eq]
                  exact ⟨fun h => UInt8.toNat_inj.mp (by have : ((35 : UInt8).toNat : Int) = 35 := rfl; omega), fun h => by rw [h]; rfl⟩
                · unfold okLetter at hok
                  rcases Bool.or_eq_true _ _ |>.mp hok with k | k
                  · rw [beq_iff_eq.1 k]; decide
                  · rw [beq_iff_eq.1 k]; decide
              have HM := Lib.hid HMETA
              clear HMETA
              obtain ⟨i0, hi0, hz0, hz1, hz2⟩ := info_parts info_bool
              have hh : h = 0 ∨ 1 ≤ h := by omega
              rcases hh with hh | hh
              · have hh2 : decide ((0 : Int) < (h : Int)) = false := decide_eq_false (by omega)
                have HH := Lib.hid hh
                have hh0 : ¬ (0 : Int) < (h : Int) := by omega
                clear hh
                have hh9 : h ≤ 100000 := by omega
                go_wp2_with (go_at_call 36; refine HTC.out.mono ?_; rintro e w3 ⟨rfl, hb3⟩; have HR3 := Lib.hid (HR2.out.later hb3); obtain ⟨k0, k1, k2, s0, s1, s2⟩ := block3 HR3.out.2.1; obtain ⟨d0, d1, d2, t0, t1, t2⟩ := block3 HR3.out.2.2.1; have ld := World.block_lt_of_cell? _ _ d0; simp only at ld; clear hb3)
                obtain ⟨w4, hw4⟩ : ∃ w4, w4 = (((w3.setCell ⟨w.heap.size + 1, 0, none⟩ (.int .i64 i)).setCell ⟨w.heap.size + 1, 1, none⟩ (.int .i64 ((h : Int) + 1))).iter a 0) := ⟨_, rfl⟩
                have R4 : PRel w i ((h + 1 : Nat) : Int) i (inkOf s.data.toList i) (h * i + 0) w4 v := by
                  rw [hw4]
                  exact ((HR3.out.sized (i : Int) ((h : Int) + 1)).later (new_below _ _))
                have hit : w4.heap[w3.heap.size]? = some (.stringIter a 0) := by rw [hw4]; simpa using World.iter_heap ((w3.setCell ⟨w.heap.size + 1, 0, none⟩ (.int .i64 i)).setCell ⟨w.heap.size + 1, 1, none⟩ (.int .i64 ((h : Int) + 1))) a 0
                rw [← hw4]
                have HIT := Lib.hid hit
                have HR4 := Lib.hid R4
                clear hw4 R4 hit k0 k1 k2 s0 s1 s2 d0 d1 d2 t0 t1 t2 b0 b1 b2 z0 z1 z2 j0 j1 j2 r0 r1 r2
                go_loopw [] (fun wq => ∃ (pos : Nat) (v2 : Value), pos ≤ a.size ∧ wq.heap[w3.heap.size]? = some (.stringIter a pos) ∧ Hid (PRel w i ((h + 1 : Nat) : Int) i (inkOf s.data.toList i) (h * i + pos) wq v2)) (fun wq => a.size - wq.iterPos w3.heap.size)
                case atStart => exact ⟨0, v, Nat.zero_le _, HIT.out, HR4⟩
                case round =>
                  obtain ⟨pos, v2, hpos, hit, hRq⟩ := hrel
                  have HIQ := Lib.hid hit
                  clear hit
                  by_cases hlp : pos < a.size
                  · obtain ⟨qq, hqq, hq2⟩ := HM.out pos hlp
                    obtain ⟨hq3, hq4⟩ := hq2 hlp
                    have hnx : ∀ ty, (Instr.next (.pointer (some ⟨w3.heap.size, 0, none⟩)) true ty).run Tryd.prog wr = _ := fun ty => Lib.run_next_ascii_at wr w3.heap.size a pos ty HIQ.out hlp hq4
                    obtain ⟨wn, hwn⟩ : ∃ wn, wn = wr.iterAt w3.heap.size a (pos + 1) := ⟨_, rfl⟩
                    have RN : PRel w i ((h + 1 : Nat) : Int) i (inkOf s.data.toList i) (h * i + pos) wn v2 := by rw [hwn]; exact hRq.out.iterAt HIQ.out (by omega) (pos + 1)
                    have hitn : wn.heap[w3.heap.size]? = some (.stringIter a (pos + 1)) := by rw [hwn]; exact Lib.iterAt_heap wr w3.heap.size a pos (pos + 1) HIQ.out
                    rw [← hwn] at hnx
                    obtain ⟨d0, d1, d2, t0, t1, t2⟩ := block3 RN.2.2.1
                    have hlk := World.block_lt_of_cell? _ _ d2
                    simp only at hlk
                    have hnb : some (w.heap.size + 1) ≠ v2.ownBlock := fun e => by have := (RN.1.lt _ e.symm).1; omega
                    have hpi : pos < i := by have := HZI.out; omega
                    have hlhi : h * i + pos ≤ 100000 := by have h1 := hg.out.2.1; rw [Nat.mul_add] at h1; omega
                    have hnbk : some w3.heap.size ≠ v2.ownBlock := by
                      intro e
                      rcases RN.1.2 with ⟨hv, _⟩ | ⟨g, cap, cur, hv, hbg, hg, _⟩
                      · rw [hv] at e; simp [Value.ownBlock] at e
                      · rw [hv] at e
                        have e2 : w3.heap.size = g := by simpa [Value.ownBlock] using e
                        rw [← e2, hitn] at hg
                        cases hg
                    have HRN := Lib.hid RN
                    have HQQ := Lib.hid hqq
                    have HITN := Lib.hid hitn
                    clear RN hqq hitn hwn hq2
                    go_wp2_with fail
                    go_region_law ((refine step_append_lies _ (by rfl) _ _ _ (by rfl) (w.heap.size + 2) 4 i0 (.bool false) 1 1 Tryd.underlying22 hi0 hz0 hz1 hz2 rfl (by omega) v2 (h * i + pos) _ (by rfl) (HRN.out.1.alloc _) ⟨wn.heap.size, 0, none⟩ 1 1 [.bool qq] (by rfl) (by rfl) (cell_one_new _ _ _) (by simp [Value.oneCell']) (by omega) (by unfold maxLen; omega) (by omega) (by have := HRN.out.2.2.2.size; have := World.block_lt_of_cell? _ _ (block3 HRN.out.2.2.1).1; simp at this; simp; omega) (wn.heap.size + 1) (by simp) ?_; intro gg cap w5 hown5 hgrow hat hlt5; have hb5 := block3 (grown_block hgrow ((Below.heap_alloc _ _ _ (Array.getElem?_eq_some_iff.1 HRN.out.2.2.1).1).trans HRN.out.2.2.1) hnb); have hfz5 := hb5.2.2.2.2.2; have hcl5 := hb5.2.2.1; clear hb5))
                    all_goals
                      have RR := (HRN.out.later (new_below wn _).drew).stored hpi qq HQQ.out hown5 hgrow
                      have hit5 : w5.heap[w3.heap.size]? = some (.stringIter a (pos + 1)) := grown_block hgrow ((Below.heap_alloc _ _ _ (Array.getElem?_eq_some_iff.1 HITN.out).1).trans HITN.out) hnbk
                      clear hown5 hgrow hat hlt5 hfz5 hcl5 hnx d0 d1 d2 t0 t1 t2
                      go_wp2_with fail
                      go_roundw
                      case rel => exact ⟨pos + 1, _, by omega, by rw [Below.heap_setCell _ _ _ _ (by simp; omega)]; exact hit5, Lib.hid RR⟩
                      case measure =>
                        rw [iterPosOf HIQ.out]
                        refine Nat.sub_lt_sub_left hlp (Nat.lt_of_lt_of_eq (Nat.lt_succ_self pos) (Eq.symm (iterPosOf (s := a) ?_)))
                        rw [Below.heap_setCell _ _ _ _ (by simp; omega)]
                        exact hit5
                  · have hpe : pos = a.size := by omega
                    have hnx : ∀ ty, (Instr.next (.pointer (some ⟨w3.heap.size, 0, none⟩)) true ty).run Tryd.prog wr = _ := fun ty => Lib.run_next_end_at wr w3.heap.size a pos ty HIQ.out hlp
                    have HPE := Lib.hid hpe
                    clear hpe
                    go_wp2_with fail
                    go_roundw
                    case rel =>
                      refine ⟨h + 1, b, f', (i : Int), v2, rfl, ?_, ?_, by omega, by omega, Lib.hid ⟨?_, ?_, ?_, .inr ⟨by omega, hW1, rfl⟩⟩, Lib.hid ?_⟩
                      · have h1 := HY.out; omega
                      · have h1 := HY.out; omega
                      · rw [HBB.out]; exact HN.out
                      · have h1 := hg.out.2.1
                        have h2 := HY.out
                        rw [Nat.add_mul, Nat.one_mul]
                        omega
                      · rw [HBB.out, hg.out.2.2.1, List.drop_drop, Nat.add_mul, Nat.one_mul]
                      · have h1 := hRq.out
                        rw [show h * i + pos = (h + 1) * i by rw [HPE.out, HZI.out, Nat.add_mul, Nat.one_mul]] at h1
                        exact h1
                    case measure => have h1 := HY.out; simp [strLen]; omega
              · have hh2 : decide ((0 : Int) < (h : Int)) = true := decide_eq_true (by omega)
                have hbw2 : bw = (i : Int) := by
                  rcases hbw with k | k
                  · omega
                  · exact k.2
                subst hbw2
                have hne : ((a.size : Int) != (i : Int)) = false := by rw [hzi]; simp
                have HH := Lib.hid hh
                have hh0 : (0 : Int) < (h : Int) := by omega
                clear hh
                have hh9 : h ≤ 100000 := by omega
                go_wp2_with (go_at_call 36; refine HTC.out.mono ?_; rintro e w3 ⟨rfl, hb3⟩; have HR3 := Lib.hid (HR2.out.later hb3); obtain ⟨k0, k1, k2, s0, s1, s2⟩ := block3 HR3.out.2.1; obtain ⟨d0, d1, d2, t0, t1, t2⟩ := block3 HR3.out.2.2.1; have ld := World.block_lt_of_cell? _ _ d0; simp only at ld; clear hb3)
                obtain ⟨w4, hw4⟩ : ∃ w4, w4 = (((w3.setCell ⟨w.heap.size + 1, 0, none⟩ (.int .i64 i)).setCell ⟨w.heap.size + 1, 1, none⟩ (.int .i64 ((h : Int) + 1))).iter a 0) := ⟨_, rfl⟩
                have R4 : PRel w i ((h + 1 : Nat) : Int) i (inkOf s.data.toList i) (h * i + 0) w4 v := by
                  rw [hw4]
                  exact ((HR3.out.sized (i : Int) ((h : Int) + 1)).later (new_below _ _))
                have hit : w4.heap[w3.heap.size]? = some (.stringIter a 0) := by rw [hw4]; simpa using World.iter_heap ((w3.setCell ⟨w.heap.size + 1, 0, none⟩ (.int .i64 i)).setCell ⟨w.heap.size + 1, 1, none⟩ (.int .i64 ((h : Int) + 1))) a 0
                rw [← hw4]
                have HIT := Lib.hid hit
                have HR4 := Lib.hid R4
                clear hw4 R4 hit k0 k1 k2 s0 s1 s2 d0 d1 d2 t0 t1 t2 b0 b1 b2 z0 z1 z2 j0 j1 j2 r0 r1 r2
                go_loopw [] (fun wq => ∃ (pos : Nat) (v2 : Value), pos ≤ a.size ∧ wq.heap[w3.heap.size]? = some (.stringIter a pos) ∧ Hid (PRel w i ((h + 1 : Nat) : Int) i (inkOf s.data.toList i) (h * i + pos) wq v2)) (fun wq => a.size - wq.iterPos w3.heap.size)
                case atStart => exact ⟨0, v, Nat.zero_le _, HIT.out, HR4⟩
                case round =>
                  obtain ⟨pos, v2, hpos, hit, hRq⟩ := hrel
                  have HIQ := Lib.hid hit
                  clear hit
                  by_cases hlp : pos < a.size
                  · obtain ⟨qq, hqq, hq2⟩ := HM.out pos hlp
                    obtain ⟨hq3, hq4⟩ := hq2 hlp
                    have hnx : ∀ ty, (Instr.next (.pointer (some ⟨w3.heap.size, 0, none⟩)) true ty).run Tryd.prog wr = _ := fun ty => Lib.run_next_ascii_at wr w3.heap.size a pos ty HIQ.out hlp hq4
                    obtain ⟨wn, hwn⟩ : ∃ wn, wn = wr.iterAt w3.heap.size a (pos + 1) := ⟨_, rfl⟩
                    have RN : PRel w i ((h + 1 : Nat) : Int) i (inkOf s.data.toList i) (h * i + pos) wn v2 := by rw [hwn]; exact hRq.out.iterAt HIQ.out (by omega) (pos + 1)
                    have hitn : wn.heap[w3.heap.size]? = some (.stringIter a (pos + 1)) := by rw [hwn]; exact Lib.iterAt_heap wr w3.heap.size a pos (pos + 1) HIQ.out
                    rw [← hwn] at hnx
                    obtain ⟨d0, d1, d2, t0, t1, t2⟩ := block3 RN.2.2.1
                    have hlk := World.block_lt_of_cell? _ _ d2
                    simp only at hlk
                    have hnb : some (w.heap.size + 1) ≠ v2.ownBlock := fun e => by have := (RN.1.lt _ e.symm).1; omega
                    have hpi : pos < i := by have := HZI.out; omega
                    have hlhi : h * i + pos ≤ 100000 := by have h1 := hg.out.2.1; rw [Nat.mul_add] at h1; omega
                    have hnbk : some w3.heap.size ≠ v2.ownBlock := by
                      intro e
                      rcases RN.1.2 with ⟨hv, _⟩ | ⟨g, cap, cur, hv, hbg, hg, _⟩
                      · rw [hv] at e; simp [Value.ownBlock] at e
                      · rw [hv] at e
                        have e2 : w3.heap.size = g := by simpa [Value.ownBlock] using e
                        rw [← e2, hitn] at hg
                        cases hg
                    have HRN := Lib.hid RN
                    have HQQ := Lib.hid hqq
                    have HITN := Lib.hid hitn
                    clear RN hqq hitn hwn hq2
                    go_wp2_with fail
                    go_region_law ((refine step_append_lies _ (by rfl) _ _ _ (by rfl) (w.heap.size + 2) 4 i0 (.bool false) 1 1 Tryd.underlying22 hi0 hz0 hz1 hz2 rfl (by omega) v2 (h * i + pos) _ (by rfl) (HRN.out.1.alloc _) ⟨wn.heap.size, 0, none⟩ 1 1 [.bool qq] (by rfl) (by rfl) (cell_one_new _ _ _) (by simp [Value.oneCell']) (by omega) (by unfold maxLen; omega) (by omega) (by have := HRN.out.2.2.2.size; have := World.block_lt_of_cell? _ _ (block3 HRN.out.2.2.1).1; simp at this; simp; omega) (wn.heap.size + 1) (by simp) ?_; intro gg cap w5 hown5 hgrow hat hlt5; have hb5 := block3 (grown_block hgrow ((Below.heap_alloc _ _ _ (Array.getElem?_eq_some_iff.1 HRN.out.2.2.1).1).trans HRN.out.2.2.1) hnb); have hfz5 := hb5.2.2.2.2.2; have hcl5 := hb5.2.2.1; clear hb5))
                    all_goals
                      have RR := (HRN.out.later (new_below wn _).drew).stored hpi qq HQQ.out hown5 hgrow
                      have hit5 : w5.heap[w3.heap.size]? = some (.stringIter a (pos + 1)) := grown_block hgrow ((Below.heap_alloc _ _ _ (Array.getElem?_eq_some_iff.1 HITN.out).1).trans HITN.out) hnbk
                      clear hown5 hgrow hat hlt5 hfz5 hcl5 hnx d0 d1 d2 t0 t1 t2
                      go_wp2_with fail
                      go_roundw
                      case rel => exact ⟨pos + 1, _, by omega, by rw [Below.heap_setCell _ _ _ _ (by simp; omega)]; exact hit5, Lib.hid RR⟩
                      case measure =>
                        rw [iterPosOf HIQ.out]
                        refine Nat.sub_lt_sub_left hlp (Nat.lt_of_lt_of_eq (Nat.lt_succ_self pos) (Eq.symm (iterPosOf (s := a) ?_)))
                        rw [Below.heap_setCell _ _ _ _ (by simp; omega)]
                        exact hit5
                  · have hpe : pos = a.size := by omega
                    have hnx : ∀ ty, (Instr.next (.pointer (some ⟨w3.heap.size, 0, none⟩)) true ty).run Tryd.prog wr = _ := fun ty => Lib.run_next_end_at wr w3.heap.size a pos ty HIQ.out hlp
                    have HPE := Lib.hid hpe
                    clear hpe
                    go_wp2_with fail
                    go_roundw
                    case rel =>
                      refine ⟨h + 1, b, f', (i : Int), v2, rfl, ?_, ?_, by omega, by omega, Lib.hid ⟨?_, ?_, ?_, .inr ⟨by omega, hW1, rfl⟩⟩, Lib.hid ?_⟩
                      · have h1 := HY.out; omega
                      · have h1 := HY.out; omega
                      · rw [HBB.out]; exact HN.out
                      · have h1 := hg.out.2.1
                        have h2 := HY.out
                        rw [Nat.add_mul, Nat.one_mul]
                        omega
                      · rw [HBB.out, hg.out.2.2.1, List.drop_drop, Nat.add_mul, Nat.one_mul]
                      · have h1 := hRq.out
                        rw [show h * i + pos = (h + 1) * i by rw [HPE.out, HZI.out, Nat.add_mul, Nat.one_mul]] at h1
                        exact h1
                    case measure => have h1 := HY.out; simp [strLen]; omega

end Go.Proofs.YtofcojcfcpfdmaaDoor
namespace Go.Proofs.YtofcojcfcpfdmaaDoor
open Go.RowKit
set_option linter.unusedSimpArgs false
set_option linter.unusedVariables false

theorem at_in (W H g o c x y : Nat) (q : Bool) (w : World) (hW : W ≤ 10000) (hH : H ≤ 10000) (hx : x < W) (hy : y < H) (hc : w.cell? ⟨g, o + (y * W + x), none⟩ = some (.bool q)) :
    Calls Tryd.prog 32 #[.agg #[.int .i64 W, .int .i64 H, .slice (some ⟨g, o, none⟩) (W * H) c], .int .i64 x, .int .i64 y] w fun e w' => e = .returned (.bool q) ∧ Below w.heap.size w w' := by
  have hcl := World.block_lt_of_cell? _ _ hc
  simp only at hcl
  have m0 : (0 : Int) ≤ (y : Int) * (W : Int) := Int.mul_nonneg (by omega) (by omega)
  have hfit := row_fits hy (show x + 1 ≤ W by omega)
  have m2 : (y : Int) * (W : Int) + (x : Int) < ((W * H : Nat) : Int) := by rw [← Int.natCast_mul]; omega
  have hN := Nat.mul_le_mul hW hH
  have m1 : (y : Int) * (W : Int) + (x : Int) < (W : Int) * (H : Int) := by rw [← Int.natCast_mul, ← Int.natCast_mul]; omega
  have m3 : (W : Int) * (H : Int) ≤ 100000000 := by rw [← Int.natCast_mul]; omega
  clear hfit hN
  go_enter Tryd.func32, Tryd.ntmps32
  go_wp2_with (first | (go_at_call 58; refine (in_yes _ _ _ _ (by omega)).mono ?_; rintro e w' ⟨rfl, rfl⟩))
  go_ret
  exact ⟨rfl, new_below _ _⟩

end Go.Proofs.YtofcojcfcpfdmaaDoor
