/-
  page.Parse.
-/
import Derived.Test.YtejhmobpepllcaaDoorTextM
import Derived.Test.YtejhmobpepllcaaDoorFillB
import Derived.Laws.EntriesVeiled
namespace Go.Proofs.YtejhmobpepllcaaDoor
open Go.RowKit
set_option linter.unusedSimpArgs false
set_option linter.unusedVariables false

def strLen : Value → Nat
  | .string s => s.size
  | _ => 0

theorem getD_byte (s : ByteArray) (k : Nat) (h : k < s.size) : s.data.toList.getD k 0 = s[k] := by
  rw [List.getD_eq_getElem?_getD, get_byte s k h]; rfl

set_option maxRecDepth 100000 in
theorem parse1_any (s : ByteArray) (W H x y tb wb : Nat) (w : World) (hs : s.size ≤ 40200) (hW : W ≤ 200) (hH : H ≤ 200) (hx : x < W) (hy : y < H) (hsz : H * (W + 1) = s.size)
    (h0 : w.cell? ⟨tb, 0, none⟩ = some (.string s)) (h1 : w.cell? ⟨wb, 0, none⟩ = some (.int .i64 W)) :
    Calls Tryd.prog 31 #[.int .i64 x, .int .i64 y, .pointer (some ⟨tb, 0, none⟩), .pointer (some ⟨wb, 0, none⟩)] w fun e w' => e = .returned (.bool (inkOf s.data.toList W x y)) ∧ Below w.heap.size w w' := by
  have hfit := row_fits (w := W + 1) (h := H) hy (show x + 1 ≤ W + 1 by omega)
  have hlt : y * (W + 1) + x < s.size := by rw [← hsz, Nat.mul_comm H]; omega
  have x0 : (0 : Int) ≤ (y : Int) * ((W : Int) + 1) := Int.mul_nonneg (by omega) (by omega)
  have x1 : (y : Int) * ((W : Int) + 1) + (x : Int) < (s.size : Int) := by
    have : ((y * (W + 1) + x : Nat) : Int) < (s.size : Int) := by omega
    simpa [Int.natCast_mul] using this
  have hg := getD_byte s (y * (W + 1) + x) hlt
  clear hfit hsz
  by_cases hk : (s[y * (W + 1) + x].toNat : Int) = 35
  · have hk' : ((s[y * (W + 1) + x].toNat : Int) == 35) = true := by simpa using hk
    have hv : inkOf s.data.toList W x y = true := by
      unfold inkOf
      rw [hg]
      exact decide_eq_true (UInt8.toNat_inj.mp (by have : ((35 : UInt8).toNat : Int) = 35 := rfl; omega))
    have HV := Lib.hid hv
    clear hv hk hg
    go_enter Tryd.func31, Tryd.ntmps31
    go_wp2
    go_ret
    exact ⟨by rw [HV.out]; rfl, Below.refl _ _⟩
  · have hk' : ((s[y * (W + 1) + x].toNat : Int) == 35) = false := by simpa using hk
    have hv : inkOf s.data.toList W x y = false := by
      unfold inkOf
      rw [hg]
      exact decide_eq_false (fun e => hk (by rw [e]; rfl))
    have HV := Lib.hid hv
    clear hv hk hg
    go_enter Tryd.func31, Tryd.ntmps31
    go_wp2
    go_ret
    exact ⟨by rw [HV.out]; rfl, Below.refl _ _⟩

/-- What Parse returns of a text. -/
def ParseR (s : ByteArray) (w : World) (e : Ending) (w' : World) : Prop :=
  ∃ i j sl n c, e = .returned (.tuple #[.agg #[.int .i64 i, .int .i64 j, .slice sl n c], .int .i64 (pAt s.data.toList), .int .i64 (pErr s.data.toList)]) ∧
    PgIs (pErr s.data.toList) (pW s.data.toList) (pOut s.data.toList).2 (inkOf s.data.toList (pW s.data.toList)) w' i j sl n c ∧ Below w.heap.size w w'

theorem parse_bad {s : ByteArray} {w w' : World} {E : Int} {h : Nat} (hp : pErr s.data.toList = E ∧ pAt s.data.toList = h) (hE : E ≠ 0) (hb : Below w.heap.size w w') :
    ParseR s w (.returned (.tuple #[.agg #[.int .i64 0, .int .i64 0, .slice none 0 0], .int .i64 h, .int .i64 E])) w' :=
  ⟨0, 0, none, 0, 0, by rw [hp.1, hp.2], .inl ⟨by rw [hp.1]; exact hE, rfl, rfl, rfl, rfl, rfl⟩, hb⟩

set_option maxHeartbeats 2000000 in
set_option maxRecDepth 100000 in
theorem parse_any (s : ByteArray) (w : World) (hs0 : s.size ≤ 9223372036854775807) : Calls Tryd.prog 10 #[.string s] w (ParseR s w) := by
  have hmf : ∀ (fn : Fn) (first cap : Array Value) (w : World), (Instr.makeFunc fn first cap).run Tryd.prog w = .ok (.func fn first cap) w := fun _ _ _ _ => rfl
  have hlen : s.data.toList.length = s.size := by simp
  by_cases hbig : 40200 < s.size
  · have HP := Lib.hid (pErr_large (l := s.data.toList) (by omega))
    clear hlen
    go_enter Tryd.func10, Tryd.ntmps10
    go_wp2_with fail
    refine bodyPost_ret (v := .tuple #[.agg #[.int .i64 0, .int .i64 0, .slice none 0 0], .int .i64 0, .int .i64 4]) (by simp [results, Tryd.results10, go_sem]) rfl ?_
    exact ⟨0, 0, none, 0, 0, by rw [HP.out.1, HP.out.2]; rfl, .inl ⟨by rw [HP.out.1]; decide, rfl, rfl, rfl, rfl, rfl⟩, below_alloc (new_below _ _) _⟩
  have hs : s.size ≤ 40200 := by omega
  have HLEN := Lib.hid hlen
  obtain ⟨wi, hwi⟩ : ∃ wi, wi = Lib.indexByte s.data.toList 10 := ⟨_, rfl⟩
  have hw0 : -1 ≤ wi := by rw [hwi]; exact Lib.indexByte_ge _ _
  have hw1 : wi ≤ 40200 := by
    rcases indexByte_cases s.data.toList with h | ⟨i, h⟩
    · omega
    · have := indexByte_lt h; omega
  obtain ⟨W, hW⟩ : ∃ W, W = pW s.data.toList := ⟨_, rfl⟩
  have hWi : W = wi.toNat := by rw [hW, hwi]; rfl
  have hidx := Tryd.strings_IndexByte s 10 (w.alloc (.cells #[.string s] 9) |>.alloc (.cells #[.int .i64 0, .int .i64 0, .slice none 0 0] 24))
  have e10 : (10 : Int).toNat.toUInt8 = 10 := rfl
  rw [e10, ← hwi] at hidx
  have HIDX := Lib.hid hidx
  have HW := Lib.hid hW
  have HWI := Lib.hid hWi
  have HWX := Lib.hid hwi
  have HBIG := Lib.hid (show ¬ 40200 < s.data.toList.length by omega)
  clear hidx hW hWi hwi hlen hs0 e10
  go_enter Tryd.func10, Tryd.ntmps10
  go_wp2_with fail
  refine HIDX.out.mono ?_
  rintro e wx ⟨rfl, hwx⟩
  subst hwx
  go_wp2_with fail
  obtain ⟨w1, hw1⟩ : ∃ w1, w1 = ((w.alloc (.cells #[.string s] 9)).alloc (.cells #[.int .i64 0, .int .i64 0, .slice none 0 0] 24)).alloc (.cells #[.int .i64 wi] 3) := ⟨_, rfl⟩
  have B1 : Below w.heap.size w w1 := by rw [hw1]; exact below_alloc (below_alloc (new_below _ _) _) _
  have t0 : w1.cell? ⟨w.heap.size, 0, none⟩ = some (.string s) := by rw [hw1]; go_simp
  have u0 : w1.cell? ⟨w.heap.size + 1 + 1, 0, none⟩ = some (.int .i64 wi) := by rw [hw1]; go_simp
  have qb : w1.heap[w.heap.size + 1]? = some (.cells #[.int .i64 0, .int .i64 0, .slice none 0 0] 24 (0, 0)) := by
    rw [hw1, Below.heap_alloc _ _ _ (by simp)]
    simpa using heap_alloc_new (w.alloc (.cells #[.string s] 9)) (.cells #[.int .i64 0, .int .i64 0, .slice none 0 0] 24)
  rw [← hw1]
  clear hw1 HIDX
  have HB1 := Lib.hid B1
  have LQ := Lib.hid (Array.getElem?_eq_some_iff.1 qb).1
  have QB := Lib.hid qb
  clear B1 qb
  go_loopw [6, 7] (fun hv rv wr => ∃ (h : Nat) (r : ByteArray) (f : Nat), hv = .int .i64 h ∧ rv = .string r ∧ h + r.size ≤ 40200 ∧ r.size < f ∧ Hid (parseGo W f r.data.toList h = pOut s.data.toList ∧ h * (W + 1) + r.size = s.size ∧ (h = 0 ∧ r = s ∨ 1 ≤ W ∧ wi = (W : Int))) ∧ Below w1.heap.size w1 wr) (fun _ rv _ => strLen rv)
  case atStart => exact ⟨0, s, s.data.toList.length + 1, rfl, rfl, by omega, by simp, Lib.hid ⟨by unfold pOut; rw [HW.out], by simp, .inl ⟨rfl, rfl⟩⟩, Below.refl _ _⟩
  case round =>
    obtain ⟨h, r, f, rfl, rfl, hhr, hf, hg, hb⟩ := hrel
    have c0 := cell_later hb t0
    have c1 := cell_later hb u0
    have hqb := below_block hb QB.out
    obtain ⟨j0, j1, j2, r0, r1, r2⟩ := block3 hqb
    have HQB := Lib.hid hqb
    have HB := Lib.hid hb
    obtain ⟨f', rfl⟩ : ∃ f', f = f' + 1 := ⟨f - 1, by omega⟩
    have RL := Lib.hid (show r.data.toList.length = r.size by simp)
    clear hqb hb
    by_cases he : r.toList = []
    · have he' : r.toList.isEmpty = true := by rw [he]; rfl
      have hd : r.data.toList = [] := by rw [← Lib.toList_data]; exact he
      have hr0 : r.size = 0 := by rw [← RL.out, hd]; rfl
      have HO := Lib.hid (show pOut s.data.toList = (true, h) by rw [← hg.out.1, parseGo_end hd])
      have HSZ := Lib.hid (show h * (W + 1) = s.size by have := hg.out.2.1; omega)
      have HE := Lib.hid hr0
      clear he hd hr0
      by_cases hh : h = 0
      · subst hh
        have HP := Lib.hid (pErr_empty HBIG.out HO.out)
        go_wp2_with fail
        exact bodyPost_ret (v := .tuple #[.agg #[.int .i64 0, .int .i64 0, .slice none 0 0], .int .i64 0, .int .i64 9]) (by simp [results, Tryd.results10, go_sem, j0, j1, j2]) rfl (parse_bad (h := 0) HP.out (by decide) (below_far3 (below_step HB1.out HB.out) (by omega)))
      · obtain ⟨hW1, hwW⟩ : 1 ≤ W ∧ wi = (W : Int) := hg.out.2.2.resolve_left (fun k => hh k.1)
        subst hwW
        have hh0 : ((h : Int) == 0) = false := by simpa using hh
        have hh1 : 1 ≤ h := by omega
        by_cases hbig2 : 200 < W ∨ 200 < h
        · have HP := Lib.hid (pErr_wide HBIG.out HO.out hh (by rw [← HW.out]; exact hbig2))
          clear hh
          by_cases hb1 : 200 < W
          · clear hbig2
            go_wp2_with fail
            exact bodyPost_ret (v := .tuple #[.agg #[.int .i64 0, .int .i64 0, .slice none 0 0], .int .i64 0, .int .i64 4]) (by simp [results, Tryd.results10, go_sem, j0, j1, j2]) rfl (parse_bad (h := 0) HP.out (by decide) (below_far3 (below_step HB1.out HB.out) (by omega)))
          · have hb2 : 200 < h := hbig2.resolve_left hb1
            have hb3 : W ≤ 200 := by omega
            clear hbig2 hb1
            go_wp2_with fail
            exact bodyPost_ret (v := .tuple #[.agg #[.int .i64 0, .int .i64 0, .slice none 0 0], .int .i64 0, .int .i64 4]) (by simp [results, Tryd.results10, go_sem, j0, j1, j2]) rfl (parse_bad (h := 0) HP.out (by decide) (below_far3 (below_step HB1.out HB.out) (by omega)))
        · have HP := Lib.hid (pErr_ok HBIG.out HO.out hh (by rw [← HW.out]; exact hbig2))
          have hb3 : W ≤ 200 := by omega
          have hb4 : h ≤ 200 := by omega
          have hN := Nat.mul_le_mul hb3 hb4
          have HN := Lib.hid hN
          clear hbig2 hh hN
          go_wp2_with fail
          refine (fillBool_any W h 31 _ (inkOf s.data.toList W) wr hW1 (by omega) (by omega) (by have := HN.out; omega) (Go.Proofs.enters_of Tryd.func31 (by kernel_rfl) rfl) ?_).mono ?_
          · intro x y wx hx hy hbx
            exact parse1_any s W h x y w.heap.size (w.heap.size + 1 + 1) wx hs hb3 hb4 hx hy HSZ.out (cell_later hbx c0) (cell_later hbx c1)
          · rintro e w5 ⟨v, rfl, hown, hb5⟩
            obtain ⟨k0, k1, k2, _, _, _⟩ := block3 (below_block hb5 HQB.out)
            have hpos := Nat.mul_pos hW1 hh1
            obtain ⟨gp, cp, rfl⟩ : ∃ g c, v = .slice (some ⟨g, 0, none⟩) (W * h) c := by
              rcases hown.2 with ⟨_, h0⟩ | ⟨g, c, cur, rfl, _⟩
              · omega
              · exact ⟨g, c, rfl⟩
            have hgb : wr.heap.size ≤ gp := (hown.lt gp rfl).1
            have hz : ∀ j, j < W * h → w5.cell? ⟨gp, 0 + j, none⟩ = some (.bool (inkOf s.data.toList W (j % W) (j / W))) := fun j hj => by
              rw [Nat.zero_add, hown.cellAt j (by omega)]; simp [places, List.getElem?_range hj]
            have d1 := cell_later hb5 c1
            have F := Lib.hid hz
            have G := Lib.hid hb5
            have HG := Lib.hid hgb
            clear hown hb5 hz hgb hpos
            go_wp2_with fail
            refine bodyPost_ret (v := .tuple #[.agg #[.int .i64 W, .int .i64 h, .slice (some ⟨gp, 0, none⟩) (W * h) cp], .int .i64 0, .int .i64 0]) (by simp [results, Tryd.results10, go_sem, k0, k1, k2]) rfl ?_
            have hl1 := LQ.out
            have hl2 := HB.out.size
            have hl3 := HG.out
            refine ⟨(W : Int), (h : Int), some ⟨gp, 0, none⟩, W * h, cp, by rw [HP.out.1, HP.out.2]; rfl, .inr ⟨HP.out.1, by rw [← HW.out], by rw [HO.out], by rw [← HW.out, HO.out], gp, rfl, fun j hj => ?_⟩, below_far3 (below_step (below_step HB1.out HB.out) G.out) (by omega)⟩
            rw [← HW.out]
            exact cell_far3 (by simp; omega) (F.out j hj)
    · have he' : r.toList.isEmpty = false := by simpa using he
      have hd : r.data.toList ≠ [] := by rw [← Lib.toList_data]; exact he
      have HD := Lib.hid hd
      clear he hd
      rcases indexByte_cases r.data.toList with hi | ⟨i, hi⟩
      · have HO := Lib.hid (show pOut s.data.toList = (false, h) by rw [← hg.out.1, parseGo_bad HD.out (by unfold lineB; rw [hi, decide_eq_false (by omega)]; rfl)])
        have HP := Lib.hid (pErr_bad HBIG.out HO.out)
        have HI := Lib.hid hi
        clear hi
        go_wp2_with fail
        refine (cut_none r wr (by omega) HI.out).mono ?_
        rintro e w2 ⟨rfl, rfl⟩
        go_wp2_with fail
        exact bodyPost_ret (v := .tuple #[.agg #[.int .i64 0, .int .i64 0, .slice none 0 0], .int .i64 h, .int .i64 8]) (by simp [results, Tryd.results10, go_sem, j0, j1, j2]) rfl (parse_bad HP.out (by decide) (below_far3 (below_step HB1.out HB.out) (by omega)))
      · have hir : i < r.size := by have := indexByte_lt hi; rw [RL.out] at this; exact this
        have HI := Lib.hid hi
        by_cases hiw : (i : Int) = wi
        · have hWi : W = i := by have := HWI.out; omega
          cases hrow : rowB (r.data.toList.take W)
          · have HO := Lib.hid (show pOut s.data.toList = (false, h) by rw [← hg.out.1, parseGo_bad HD.out (by unfold lineB; rw [hrow, Bool.and_false])])
            have HP := Lib.hid (pErr_bad HBIG.out HO.out)
            have HR := Lib.hid hrow
            have hne : ((i : Int) != wi) = false := by simpa using hiw
            have HIW := Lib.hid hiw
            have HWi := Lib.hid hWi
            clear hi hrow hiw hWi
            go_wp2_with fail
            refine (cut_some r i wr (by omega) HI.out hir).mono ?_
            rintro e w2 ⟨a, b, ha, hz, hbb, hy, rfl, q, rfl⟩
            have HA := Lib.hid ha
            have HY := Lib.hid hy
            have hzi : (a.size : Int) = (i : Int) := by omega
            have hna : ((a.size : Int) != wi) = false := by rw [hzi]; exact hne
            have HRA := Lib.hid (show rowB a.data.toList = false by rw [HA.out, ← HWi.out]; exact HR.out)
            have hsa : a.size ≤ 1000000 := by omega
            clear ha hbb hy hz hzi hne
            go_wp2_with (go_at_call 29; refine (isRow_any a _ hsa).mono ?_; rintro e w3 ⟨rfl, rfl⟩; rw [HRA.out])
            exact bodyPost_ret (v := .tuple #[.agg #[.int .i64 0, .int .i64 0, .slice none 0 0], .int .i64 h, .int .i64 8]) (by simp [results, Tryd.results10, go_sem, j0, j1, j2]) rfl (parse_bad HP.out (by decide) (below_far3 (below_drewN (below_step HB1.out HB.out) _) (by omega)))
          · have hW1 : 1 ≤ W := by
              have := rowB_ne hrow
              rcases Nat.eq_zero_or_pos W with e | e
              · rw [e] at this; simp at this
              · exact e
            have HN := Lib.hid (show parseGo W f' (r.data.toList.drop (W + 1)) (h + 1) = pOut s.data.toList by
              rw [← hg.out.1, parseGo_good HD.out (by unfold lineB; rw [hrow, HI.out, hWi, decide_eq_true rfl]; rfl)])
            have HR := Lib.hid hrow
            have hne : ((i : Int) != wi) = false := by simpa using hiw
            have HIW := Lib.hid hiw
            have HWi := Lib.hid hWi
            clear hi hrow hiw hWi
            go_wp2_with fail
            refine (cut_some r i wr (by omega) HI.out hir).mono ?_
            rintro e w2 ⟨a, b, ha, hz, hbb, hy, rfl, q, rfl⟩
            have HA := Lib.hid ha
            have HBB := Lib.hid hbb
            have HY := Lib.hid hy
            have hzi : (a.size : Int) = (i : Int) := by omega
            have hna : ((a.size : Int) != wi) = false := by rw [hzi]; exact hne
            have HRA := Lib.hid (show rowB a.data.toList = true by rw [HA.out, ← HWi.out]; exact HR.out)
            have hsa : a.size ≤ 1000000 := by omega
            have hsb : b.size < r.size := by omega
            clear ha hbb hy hz hzi hne
            go_wp2_with (go_at_call 29; refine (isRow_any a _ hsa).mono ?_; rintro e w3 ⟨rfl, rfl⟩; rw [HRA.out])
            go_roundw
            case rel =>
              refine ⟨h + 1, b, f', by go_num, rfl, by omega, by omega, Lib.hid ⟨?_, ?_, .inr ⟨hW1, ?_⟩⟩, below_drewN HB.out _⟩
              · rw [HBB.out, ← HWi.out]; exact HN.out
              · have h1 := hg.out.2.1
                have h2 := HY.out
                have h3 := HWi.out
                rw [Nat.add_mul, Nat.one_mul]
                omega
              · have h1 := HIW.out
                have h3 := HWi.out
                omega
            case measure => simp [strLen]; omega
        · have hline : lineB W r.data.toList = false := by
            unfold lineB
            rw [hi]
            by_cases e : (i : Int) = (W : Int)
            · have hw := HWI.out
              have hW0 : W = 0 := by omega
              rw [hW0]; simp [rowB]
            · rw [decide_eq_false e]; rfl
          have HO := Lib.hid (show pOut s.data.toList = (false, h) by rw [← hg.out.1, parseGo_bad HD.out hline])
          have HP := Lib.hid (pErr_bad HBIG.out HO.out)
          have hne : ((i : Int) != wi) = true := by simpa using hiw
          clear hi hiw hline
          go_wp2_with fail
          refine (cut_some r i wr (by omega) HI.out hir).mono ?_
          rintro e w2 ⟨a, b, ha, hz, hbb, hy, rfl, q, rfl⟩
          have hzi : (a.size : Int) = (i : Int) := by omega
          have hna : ((a.size : Int) != wi) = true := by rw [hzi]; exact hne
          clear ha hbb hy hz hzi hne
          go_wp2_with fail
          exact bodyPost_ret (v := .tuple #[.agg #[.int .i64 0, .int .i64 0, .slice none 0 0], .int .i64 h, .int .i64 8]) (by simp [results, Tryd.results10, go_sem, j0, j1, j2]) rfl (parse_bad HP.out (by decide) (below_far3 (below_drewN (below_step HB1.out HB.out) _) (by omega)))

end Go.Proofs.YtejhmobpepllcaaDoor
