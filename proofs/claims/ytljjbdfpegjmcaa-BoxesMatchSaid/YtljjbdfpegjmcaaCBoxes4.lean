/-
  What boxes_holds leans on: contracts of the functions that it calls.
-/
import Derived.Test.YtljjbdfpegjmcaaRows
import Derived.WalkKit
import Derived.WalkSpells
import Derived.WalkLawsBesides
import Derived.Lib.Hide
import Derived.Deep.RegionHeld3
import Derived.Shelf.Abstract
import Derived.Deep.QuietTactic
import Derived.BigQuiet
import Derived.Deep.AppendLies
import Derived.Deep.DrawnRows
import Derived.Deep.RegionLaw
import Derived.ProofKit
import Derived.OpenShut
import Derived.ShutString
import Derived.ChangeOld
import Derived.Lib.SmallJoins
import Derived.Deep.Grids
import Derived.Deep.DeepCutAuto
import Derived.Lib.MinMax
import Derived.Laws.EntriesVeiled
import Derived.RegionTactic
import Derived.ChangeAlike
import Derived.BigRegion
import Derived.StillTailTactics
import Derived.Deep.OwnRows
import Derived.Deep.AppendSrc
import Derived.Shelf.Sort.Plain
import Derived.Test.YtljjbdfpegjmcaaProg
import Derived.Deep.Slices
import Derived.Test.YtljjbdfpegjmcaaCBoxes3
namespace Go.Proofs.Ytljjbdfpegjmcaa
open Go.RowKit
set_option linter.unusedSimpArgs false
set_option linter.unusedVariables false

theorem filt_step {R : List Nat} (hs : R.Pairwise (· < ·)) (p : Nat → Bool) {j : Nat} (hj : j ∈ R) (hp : p j = true) :
    R.filter (fun x => decide (x < j + 1) && p x) = R.filter (fun x => decide (x < j) && p x) ++ [j] := by
  induction R with
  | nil => simp at hj
  | cons a t ih =>
    obtain ⟨h1, h2⟩ := List.pairwise_cons.1 hs
    by_cases e : a = j
    · subst e
      have n1 : t.filter (fun x => decide (x < a + 1) && p x) = [] := by
        rw [List.filter_eq_nil_iff]
        intro x hx
        have := h1 x hx
        simp; omega
      have n2 : t.filter (fun x => decide (x < a) && p x) = [] := by
        rw [List.filter_eq_nil_iff]
        intro x hx
        have := h1 x hx
        simp; omega
      simp [List.filter_cons, n1, n2, hp]
    · have hjt : j ∈ t := by
        rcases List.mem_cons.1 hj with h | h
        · exact absurd h.symm e
        · exact h
      have haj := h1 j hjt
      have e1 : decide (a < j + 1) = true := by simp; omega
      have e2 : decide (a < j) = true := by simp; omega
      rw [List.filter_cons, List.filter_cons, e1, e2, ih h2 hjt]
      cases p a <;> simp
theorem filt_same {R : List Nat} (p : Nat → Bool) {j : Nat} (h : j ∉ R ∨ p j = false) :
    R.filter (fun x => decide (x < j + 1) && p x) = R.filter (fun x => decide (x < j) && p x) := by
  refine List.filter_congr (fun x hx => ?_)
  by_cases e : x = j
  · subst e
    rcases h with h | h
    · exact absurd hx h
    · simp [h]
  · have : decide (x < j + 1) = decide (x < j) := by
      by_cases h1 : x < j
      · rw [decide_eq_true h1, decide_eq_true (show x < j + 1 by omega)]
      · rw [decide_eq_false h1, decide_eq_false (show ¬ x < j + 1 by omega)]
    rw [this]
theorem filt_zero (R : List Nat) (p : Nat → Bool) : R.filter (fun x => decide (x < 0) && p x) = [] := by
  rw [List.filter_eq_nil_iff]; intro x _; simp
theorem filt_all {R : List Nat} {n : Nat} (p : Nat → Bool) (h : ∀ x, x ∈ R → x < n) : R.filter (fun x => decide (x < n) && p x) = R.filter p :=
  List.filter_congr (fun x hx => by rw [decide_eq_true (h x hx)]; rfl)

/-- Whether a number has been seen. -/
def seenB (R : List Nat) (p : Nat → Bool) (j x : Nat) : Bool := !(decide (x ∈ R) && !(decide (x < j) && p x))
def seen0 (R : List Nat) (x : Nat) : Bool := !decide (x ∈ R)
theorem seenB_zero (R : List Nat) (p : Nat → Bool) (x : Nat) : seenB R p 0 x = seen0 R x := by simp [seenB, seen0]
theorem seenB_all (R : List Nat) (p : Nat → Bool) (n x : Nat) (h : x < n) : seenB R p n x = seen0 (R.filter fun y => !p y) x := by
  unfold seenB seen0
  rw [decide_eq_true h]
  by_cases h1 : x ∈ R <;> cases h2 : p x <;> simp [h1, h2]
theorem seenB_at (R : List Nat) (p : Nat → Bool) (j : Nat) : seenB R p j j = seen0 R j := by simp [seenB, seen0]
theorem seenB_same (R : List Nat) (p : Nat → Bool) (j x : Nat) (h : j ∉ R ∨ p j = false) : seenB R p (j + 1) x = seenB R p j x := by
  unfold seenB
  by_cases e : x = j
  · subst e
    rcases h with h | h
    · simp [h]
    · simp [h]
  · have : decide (x < j + 1) = decide (x < j) := by
      by_cases h1 : x < j
      · rw [decide_eq_true h1, decide_eq_true (show x < j + 1 by omega)]
      · rw [decide_eq_false h1, decide_eq_false (show ¬ x < j + 1 by omega)]
    rw [this]
theorem seenB_set (R : List Nat) (p : Nat → Bool) (j x : Nat) (h : p j = true) : seenB R p (j + 1) x = if x = j then true else seenB R p j x := by
  unfold seenB
  by_cases e : x = j
  · subst e; simp [h]
  · rw [if_neg e]
    have : decide (x < j + 1) = decide (x < j) := by
      by_cases h1 : x < j
      · rw [decide_eq_true h1, decide_eq_true (show x < j + 1 by omega)]
      · rw [decide_eq_false h1, decide_eq_false (show ¬ x < j + 1 by omega)]
    rw [this]
theorem seen0_cons (a : Nat) (t : List Nat) (h : ∀ x, x ∈ t → a < x) (x : Nat) : seen0 t x = if x = a then true else seen0 (a :: t) x := by
  unfold seen0
  by_cases e : x = a
  · subst e
    have : x ∉ t := fun k => by have := h x k; omega
    simp [this]
  · simp [e]

theorem head_is {R : List Nat} {i : Nat} (hs : R.Pairwise (· < ·)) (hlow : ∀ x, x ∈ R → i ≤ x) (hi : i ∈ R) : ∃ t, R = i :: t ∧ (∀ x, x ∈ t → i < x) ∧ t.Pairwise (· < ·) := by
  cases R with
  | nil => simp at hi
  | cons a t =>
    obtain ⟨h1, h2⟩ := List.pairwise_cons.1 hs
    have ha : a = i := by
      rcases List.mem_cons.1 hi with h | h
      · exact h.symm
      · have := h1 i h
        have := hlow a (by simp)
        omega
    subst ha
    exact ⟨t, rfl, h1, h2⟩
theorem range_lt (n : Nat) : (List.range n).Pairwise (· < ·) := List.pairwise_lt_range
theorem bfsN_asc {c : Nat → Nat → Bool} {s : List Nat × List Nat} (h : s.2.Pairwise (· < ·)) (k : Nat) : (bfsN c s k).2.Pairwise (· < ·) := h.sublist (bfsN_sub c s k)

end Go.Proofs.Ytljjbdfpegjmcaa
namespace Go.Proofs.Ytljjbdfpegjmcaa
open Go.RowKit
set_option linter.unusedSimpArgs false
set_option linter.unusedVariables false

/-- Between two numbers of the outer loop. -/
structure RefR (w1 : World) (sb n : Nat) (Ls : List (List Int)) (R : List Nat) (v : Value) (w : World) : Prop where
  g : ∃ vals, w.ownsRow w1.heap.size 38 1 v Ls.length vals ∧ Lists w w1.heap.size Ls vals
  s : w.rowIs sb 4 n (fun x => .bool (seen0 R x))
  b : w1.grownBy w (some sb)
/-- Between two numbers of a group. -/
structure RefK (wo : World) (sb n : Nat) (c : Nat → Nat → Bool) (s : List Nat × List Nat) (k : Nat) (v : Value) (w : World) : Prop where
  g : Grown w wo.heap.size v (bfsN c s k).1
  s : w.rowIs sb 4 n (fun x => .bool (seen0 (bfsN c s k).2 x))
  b : wo.grownBy w (some sb)
/-- Between two numbers that are asked. -/
structure RefJ (wo : World) (sb n : Nat) (p : Nat → Bool) (G R : List Nat) (j : Nat) (v : Value) (w : World) : Prop where
  g : Grown w wo.heap.size v (G ++ R.filter (fun x => decide (x < j) && p x))
  s : w.rowIs sb 4 n (fun x => .bool (seenB R p j x))
  b : wo.grownBy w (some sb)

theorem row_below {w w' : World} {b : Nat} {t : TypeId} {n : Nat} {f : Nat → Value} (h : w.rowIs b t n f) (hb : Below w.heap.size w w') : w'.rowIs b t n f := h.of_block (hb.block b h.lt)

theorem cell_one_at' {w : World} {b : Nat} (h : w.heap.size = b) (v : Value) (t : TypeId) : ∀ j u, [v][j]? = some u → (w.alloc (.cells #[v] t)).cell? ((⟨b, 0, none⟩ : Addr).add j) = some u := by subst h; exact cell_one_new w v t

set_option maxHeartbeats 4000000 in
set_option maxRecDepth 100000 in
theorem groupsR_ok (n g o c : Nat) (B : Nat → Bx) (dx dy : Int) (w : World) (hn1 : 1 ≤ n) (hn : n ≤ 60) (hB : BoxesAt w g o n B) (hOK : ∀ i, i < n → (B i).OK) :
    Calls Try.prog 17 #[.slice (some ⟨g, o, none⟩) n c, .int .i64 dx, .int .i64 dy] w fun e w' =>
      ∃ v vals Ls, e = .returned v ∧ Grouped (closeB B dx dy) n Ls ∧ w'.ownsRow w.heap.size 38 1 v Ls.length vals ∧ Lists w' w.heap.size Ls vals ∧ Below w.heap.size w w' := by
  obtain ⟨i0, hi, hz0, hz1, hz2⟩ := info_parts info_ints
  obtain ⟨k0, ki, kz0, kz1, kz2⟩ := info_parts info_int
  have mkB := run_make_row' (P := Try.prog) 45 4 (.bool false) 1 Try.underlying45 info_bool rfl .i64 .i64 n (by omega) (by omega)
  obtain ⟨w1, hw1⟩ : ∃ w1, w1 = w.alloc (.cells (madeCells #[.bool false] n) 4) := ⟨_, rfl⟩
  have B1 := Lib.hid (show Below w.heap.size w w1 by rw [hw1]; exact new_below _ _)
  have S1 := Lib.hid (show w1.heap.size = w.heap.size + 1 by rw [hw1]; simp)
  have R1 := Lib.hid (show w1.rowIs w.heap.size 4 n (fun x => .bool (seen0 (List.range n) x)) by
    rw [hw1]
    exact (World.rowIs_made w (.bool false) n 4).congr (fun i hi => by simp [seen0, hi]))
  have HG := Lib.hid (show g < w.heap.size by
    have := World.block_lt_of_cell? _ _ (hB 0 hn1).1.1
    simpa using this)
  have HB := Lib.hid (hB.later B1.out)
  have HBX := Lib.hid (show ∀ wx, w1.grownBy wx (some w.heap.size) → BoxesAt wx g o n B from fun wx hx k hk =>
    ⟨⟨bar_cell hx (by have := HG.out; omega) (HB.out k hk).1.1, bar_cell hx (by have := HG.out; omega) (HB.out k hk).1.2⟩, bar_cell hx (by have := HG.out; omega) (HB.out k hk).2.1, bar_cell hx (by have := HG.out; omega) (HB.out k hk).2.2⟩)
  have HO := Lib.hid hOK
  obtain ⟨cl, hcl⟩ : ∃ cl, cl = closeB B dx dy := ⟨_, rfl⟩
  rw [← hcl]
  have HCQ := Lib.hid hcl
  obtain ⟨sb, hsb⟩ : ∃ sb, sb = w.heap.size := ⟨_, rfl⟩
  rw [← hsb] at R1 HBX S1
  have HSB := Lib.hid hsb
  have R0 := Lib.hid (show RefR w1 sb n [] (List.range n) (.slice none 0 0) w1 from ⟨⟨[], World.ownsRow_nil _ _ _ _, Lists.nil _ _⟩, R1.out, bar_refl _ _⟩)
  clear hB hOK hcl
  go_enter Try.func17, Try.ntmps17
  go_upto_region 2 with (fail)
  rw [← hw1, ← hsb]
  clear hw1 hsb mkB
  go_wp2_with fail
  go_loopw [8, 20] (fun v8 i wr => ∃ (q m : Nat) (Ls : List (List Int)) (R : List Nat), q ≤ n ∧ i = .int .i64 q ∧ Hid (grpN cl ([], List.range n) m = (Ls, R)) ∧ Hid (∀ x, x ∈ R → q ≤ x) ∧ Hid (RefR w1 sb n Ls R v8 wr)) (fun _ i _ => n - (intOf i).toNat)
  case atStart => exact ⟨0, 0, [], List.range n, Nat.zero_le _, rfl, Lib.hid rfl, Lib.hid (fun _ _ => Nat.zero_le _), R0⟩
  case round =>
    obtain ⟨q, m, Ls, R, hq, rfl, HM, HLO, HR⟩ := hrel
    clear R0
    obtain ⟨wo, rfl⟩ : ∃ wo : World, wo = wr := ⟨_, rfl⟩
    have hcnt := grpN_count cl ([], List.range n) m
    rw [HM.out] at hcnt
    simp only [List.length_nil, List.length_range] at hcnt
    have hsub := grpN_sub cl ([], List.range n) m
    rw [HM.out] at hsub
    have HASC := Lib.hid (show R.Pairwise (· < ·) from (range_lt n).sublist hsub)
    have HLT := Lib.hid (show ∀ x, x ∈ R → x < n from fun x hx => by have := hsub.subset hx; simpa using this)
    have HCN := Lib.hid hcnt
    clear hsub hcnt
    by_cases hlt : q < n
    · have i1 : (q : Int) < (n : Int) := by omega
      have hcell := HR.out.s.cell hlt
      by_cases hin : q ∈ R
      · rw [show seen0 R q = false by simp [seen0, hin]] at hcell
        obtain ⟨t, rfl, htl, hta⟩ := head_is HASC.out HLO.out hin
        have HTL := Lib.hid htl
        have HTA := Lib.hid hta
        have hsl := HR.out.s.lt
        have hfz := HR.out.s.frozen q
        clear htl hta hin
        go_upto_region 9 with (fail)
        obtain ⟨w5, hw5⟩ : ∃ w5, w5 = (wo.setCell ⟨sb, q, none⟩ (.bool true)).alloc (.cells #[.int .i64 ((q : Nat) : Int)] 3) := ⟨_, rfl⟩
        have hsz5 : (wo.setCell ⟨sb, q, none⟩ (.bool true)).heap.size = wo.heap.size := by simp
        have K0 := Lib.hid (show RefK wo sb n cl ([q], t) 0 (.slice (some ⟨wo.heap.size, 0, none⟩) 1 1) w5 from ⟨by
            have := owns_one (wo.setCell ⟨sb, q, none⟩ (.bool true)) (.int .i64 ((q : Nat) : Int))
            rw [hsz5, ← hw5] at this
            exact this, by
            rw [hw5]
            exact ((HR.out.s.set q (.bool true)).alloc _).congr (fun x hx => by
              show (if x = q then Value.bool true else Value.bool (seen0 (q :: t) x)) = Value.bool (seen0 t x)
              rw [seen0_cons q t HTL.out x]
              by_cases e : x = q
              · rw [if_pos e, if_pos e]
              · rw [if_neg e, if_neg e]), by
            rw [hw5]
            exact bar_below (bar_set (bar_refl wo _)) (new_below _ _)⟩)
        have LEN := Lib.hid (bfsN_len cl ([q], t))
        have LTS := Lib.hid (bfsN_lt cl ([q], t) n (fun x hx => HLT.out x (by rcases hx with hx | hx <;> simp at hx ⊢ <;> simp [hx])))
        have POS := Lib.hid (fun k => bfsN_pos cl ([q], t) k (by simp))
        have TL := Lib.hid (show t.length + 1 ≤ 60 by have := HCN.out; simp only [List.length_cons] at this; omega)
        rw [← hw5]
        clear hw5 hsz5 hcell hsl hfz
        go_wp2_with fail
        go_loopw [10, 11] (fun v10 i wk => ∃ k : Nat, k ≤ (bfsN cl ([q], t) k).1.length ∧ i = .int .i64 k ∧ Hid (RefK wo sb n cl ([q], t) k v10 wk)) (fun _ i _ => 100 - (intOf i).toNat)
        case atStart => exact ⟨0, Nat.zero_le _, rfl, K0⟩
        case round =>
          obtain ⟨k, hk, rfl, HK⟩ := hrel
          clear K0
          obtain ⟨wk, rfl⟩ : ∃ wk : World, wk = wr := ⟨_, rfl⟩
          obtain ⟨gb, cg, rfl, hgb, hgl⟩ := HK.out.g.shape (POS.out k)
          have hlen := LEN.out k
          simp only [List.length_singleton] at hlen
          have htl := TL.out
          by_cases hlk : k < (bfsN cl ([q], t) k).1.length
          · have hstep : bfsN cl ([q], t) (k + 1) = ((bfsN cl ([q], t) k).1 ++ (bfsN cl ([q], t) k).2.filter (fun j => cl ((bfsN cl ([q], t) k).1.getD k 0) j), (bfsN cl ([q], t) k).2.filter (fun j => !cl ((bfsN cl ([q], t) k).1.getD k 0) j)) := by
              rw [bfsN]; unfold bfs1; rw [if_pos hlk]
            have HST := Lib.hid hstep
            have HLTK := Lib.hid (LTS.out k)
            have HASK := Lib.hid (bfsN_asc (c := cl) (s := ([q], t)) HTA.out k)
            have HKg := HK.out.g
            have HKs := HK.out.s
            have HKb := HK.out.b
            clear hstep HK
            generalize (bfsN cl ([q], t) k).1 = G at *
            generalize (bfsN cl ([q], t) k).2 = R' at *
            obtain ⟨x, hx⟩ : ∃ x, x = G.getD k 0 := ⟨_, rfl⟩
            rw [← hx] at HST
            have hxn : x < n := HLTK.out x (.inl (by rw [hx]; simp [List.getD, hlk]))
            have HX := Lib.hid hx
            have HXN := Lib.hid hxn
            have J0 := Lib.hid (show RefJ wo sb n (cl x) G R' 0 (.slice (some ⟨gb, 0, none⟩) G.length cg) wk from ⟨by rw [filt_zero, List.append_nil]; exact HKg, HKs.congr (fun y _ => by rw [seenB_zero]), HKb⟩)
            have j1 : (k : Int) < (G.length : Int) := by omega
            clear hx hxn HKg HKs HKb hgb hgl
            go_wp2_with fail
            go_loopw [10, 40] (fun v10 i wx => ∃ j : Nat, j ≤ n ∧ i = .int .i64 j ∧ Hid (RefJ wo sb n (cl x) G R' j v10 wx)) (fun _ i _ => n - (intOf i).toNat)
            case atStart => exact ⟨0, Nat.zero_le _, rfl, J0⟩
            case round =>
              obtain ⟨j, hj, rfl, HJ⟩ := hrel
              clear J0
              obtain ⟨wj, rfl⟩ : ∃ wj : World, wj = wr := ⟨_, rfl⟩
              obtain ⟨gb, cg, rfl, hgb, hgl⟩ := HJ.out.g.shape (by rw [List.length_append]; omega)
              by_cases hjn : j < n
              · have i2 : (j : Int) < (n : Int) := by omega
                obtain ⟨⟨c0, c1⟩, c2, c3⟩ := HBX.out wj (bar_trans HR.out.b HJ.out.b) x HXN.out
                obtain ⟨⟨d0, d1⟩, d2, d3⟩ := HBX.out wj (bar_trans HR.out.b HJ.out.b) j hjn
                have hgx := HJ.out.g.cell (k := k) (by rw [List.length_append]; omega)
                rw [show (G ++ R'.filter (fun y => decide (y < j) && cl x y)).getD k 0 = x by rw [HX.out]; simp only [List.getD]; rw [List.getElem?_append_left hlk]] at hgx
                have j3 : (k : Int) < ((G ++ R'.filter (fun y => decide (y < j) && cl x y)).length : Int) := by rw [List.length_append]; omega
                have j4 : (x : Int) < (n : Int) := by have := HXN.out; omega
                have HNR := Lib.hid (fun w => nearR_any (B x).x (B x).y (B x).w (B x).h (B j).x (B j).y (B j).w (B j).h w (HO.out x HXN.out) (HO.out j hjn))
                have hclx : cl x j = (decide (NearX (B x).x (B x).w (B j).x (B j).w ≤ dx) && decide (NearX (B x).y (B x).h (B j).y (B j).h ≤ dy)) := by rw [HCQ.out]; rfl
                generalize NearX (B x).x (B x).w (B j).x (B j).w = NX at HNR hclx
                generalize NearX (B x).y (B x).h (B j).y (B j).h = NY at HNR hclx
                have HCX := Lib.hid hclx
                generalize B x = b1 at *
                generalize B j = b2 at *
                obtain ⟨X1, Y1, U1, V1⟩ := b1
                obtain ⟨X2, Y2, U2, V2⟩ := b2
                simp only at *
                have hG1 := Lib.hid HJ.out.g
                obtain ⟨G1, hG1e⟩ : ∃ G1, G1 = G ++ R'.filter (fun y => decide (y < j) && cl x y) := ⟨_, rfl⟩
                rw [← hG1e] at j3 hG1
                rw [← hG1e]
                have HG1 := Lib.hid hG1e
                have GL := Lib.hid (show G1.length ≤ 60 by
                  have h1 := List.length_filter_le (fun y => decide (y < j) && cl x y) R'
                  rw [hG1e, List.length_append]
                  omega)
                clear hclx hgb hgl hG1e
                go_upto_region 15 with (fail)
                have HS9 := Lib.hid (fun wx (hb : Below wj.heap.size wj wx) => And.intro (cell_later hb hgx) (And.intro (cell_later hb c0) (And.intro (cell_later hb c1) (And.intro (cell_later hb c2) (And.intro (cell_later hb c3) (And.intro (cell_later hb d0) (And.intro (cell_later hb d1) (And.intro (cell_later hb d2) (cell_later hb d3)))))))))
                go_region_held3 (fun w' => w'.cell? ⟨gb, k, none⟩ = some (.int .i64 x) ∧
                    w'.cell? ⟨g, o + x * 4, none⟩ = some (.int .i64 X1) ∧ w'.cell? ⟨g, o + x * 4 + 1, none⟩ = some (.int .i64 Y1) ∧ w'.cell? ⟨g, o + x * 4 + 2, none⟩ = some (.int .i64 U1) ∧ w'.cell? ⟨g, o + x * 4 + 3, none⟩ = some (.int .i64 V1) ∧
                    w'.cell? ⟨g, o + j * 4, none⟩ = some (.int .i64 X2) ∧ w'.cell? ⟨g, o + j * 4 + 1, none⟩ = some (.int .i64 Y2) ∧ w'.cell? ⟨g, o + j * 4 + 2, none⟩ = some (.int .i64 U2) ∧ w'.cell? ⟨g, o + j * 4 + 3, none⟩ = some (.int .i64 V2))
                  (first | (go_keep; done) | (refine HS9.out _ ?_; (repeat (first | with_reducible exact Below.refl _ _ | with_reducible assumption | with_reducible refine below_alloc ?_ _ | with_reducible refine Below.drew ?_ | with_reducible refine below_step ?_ (by assumption))); done))
                  ((first | (go_at_call 15; ((with_reducible refine (HNR.out _).mono ?_); rintro e w6 ⟨rfl, hb6⟩))))
                have hb6' : Below wj.heap.size wj w6 := below_step (Below.refl _ _).drew hb6
                have O6 := Lib.hid (hG1.out.later hb6')
                have R6 := Lib.hid (row_below HJ.out.s hb6')
                have W6 := Lib.hid (bar_below HJ.out.b hb6')
                have Z6 := Lib.hid (show wo.heap.size ≤ w6.heap.size from Nat.le_trans HJ.out.b.size hb6'.size)
                clear hb6 hb6' c0 c1 c2 c3 d0 d1 d2 d3 hgx HS9
                have hsl := R6.out.lt
                have hsc := R6.out.cell hjn
                have hsf := R6.out.frozen j
                rw [seenB_at] at hsc
                by_cases hjR : j ∈ R'
                · rw [show seen0 R' j = false by simp [seen0, hjR]] at hsc
                  by_cases hp : cl x j = true
                  · obtain ⟨h1, h2⟩ : NX ≤ dx ∧ NY ≤ dy := by
                      have := HCX.out
                      rw [hp] at this
                      simpa using this.symm
                    have E1 := Lib.hid (show G ++ R'.filter (fun y => decide (y < j + 1) && cl x y) = G1 ++ [j] by rw [filt_step HASK.out (cl x) hjR hp, ← List.append_assoc, HG1.out])
                    have HP := Lib.hid hp
                    clear hp
                    go_wp2_with (at_builtin; refine wpList_append_own _ rfl _ _ 38 rfl wo.heap.size 3 k0 (.int .i64 0) 1 8 Try.underlying38 ki kz0 kz1 kz2 rfl (by decide) _ _ _ rfl (World.ownsRow.alloc (ownsRow_setCell_other O6.out (by have := O6.out.lt gb rfl; have := HR.out.s.lt; intro e; simp [Value.ownBlock] at e; omega) _) _) ⟨w6.heap.size, 0, none⟩ 1 1 [.int .i64 (j : Int)] rfl rfl ?c1 ?c2 ?c3 ?c4 ?c5 ?_)
                    case c1 => exact cell_one_at' (by simp) _ _
                    case c2 => intro u hu; simp at hu; subst hu; rfl
                    case c3 => have := GL.out; unfold maxLen; omega
                    case c4 => have := GL.out; omega
                    case c5 => have := Z6.out; simp; omega
                    intro v' w8 hown8 hgr8 _
                    have hgbs : gb ≠ sb := by have := O6.out.lt gb rfl; have := HR.out.s.lt; omega
                    have G8 := Lib.hid (show Grown w8 wo.heap.size v' (G1 ++ [j]) by
                      unfold Grown
                      rw [← natsOf_snoc, List.length_append, List.length_singleton]
                      exact hown8)
                    have B8 := Lib.hid (bar_grown (bar_below (bar_set (o := j) (v := .bool true) W6.out) (new_below _ (.cells #[.int .i64 ((j : Nat) : Int)] 3))) hgr8 (fun q' hq' => O6.out.lt q' hq'))
                    have R8 := Lib.hid (show w8.rowIs sb 4 n (fun y => .bool (seenB R' (cl x) (j + 1) y)) from
                      ((((R6.out.set j (.bool true)).alloc (.cells #[.int .i64 ((j : Nat) : Int)] 3)).of_block (hgr8.block sb (by simp; omega) (fun e => hgbs (by simp [Value.ownBlock] at e; exact e.symm)))).congr (fun y hy => by
                        show (if y = j then Value.bool true else Value.bool (seenB R' (cl x) j y)) = Value.bool (seenB R' (cl x) (j + 1) y)
                        rw [seenB_set R' (cl x) j y HP.out]
                        by_cases e : y = j
                        · rw [if_pos e, if_pos e]
                        · rw [if_neg e, if_neg e])))
                    clear hown8 hgr8
                    go_wp2_with fail
                    go_roundw
                    case rel => exact ⟨j + 1, by omega, by go_num, Lib.hid ⟨by rw [E1.out]; exact G8.out, R8.out, B8.out⟩⟩
                    case measure => simp [intOf]; omega
                  · have hpf : cl x j = false := by simpa using hp
                    have J8 := Lib.hid (show RefJ wo sb n (cl x) G R' (j + 1) (.slice (some ⟨gb, 0, none⟩) G1.length cg) w6 from
                      ⟨by rw [filt_same (cl x) (.inr hpf), ← HG1.out]; exact O6.out, R6.out.congr (fun y _ => by rw [seenB_same _ _ _ _ (.inr hpf)]), W6.out⟩)
                    have hand := HCX.out
                    rw [hpf] at hand
                    clear hp hpf
                    by_cases h1 : NX ≤ dx
                    · have h2 : ¬ NY ≤ dy := by
                        intro h2
                        rw [decide_eq_true h1, decide_eq_true h2] at hand
                        simp at hand
                      clear hand
                      go_wp2_with fail
                      go_roundw
                      case rel => exact ⟨j + 1, by omega, by go_num, J8⟩
                      case measure => simp [intOf]; omega
                    · clear hand
                      go_wp2_with fail
                      go_roundw
                      case rel => exact ⟨j + 1, by omega, by go_num, J8⟩
                      case measure => simp [intOf]; omega
                · rw [show seen0 R' j = true by simp [seen0, hjR]] at hsc
                  have J8 := Lib.hid (show RefJ wo sb n (cl x) G R' (j + 1) (.slice (some ⟨gb, 0, none⟩) G1.length cg) w6 from
                    ⟨by rw [filt_same (cl x) (.inl hjR), ← HG1.out]; exact O6.out, R6.out.congr (fun y _ => by rw [seenB_same _ _ _ _ (.inl hjR)]), W6.out⟩)
                  clear hjR
                  go_wp2_with fail
                  go_roundw
                  case rel => exact ⟨j + 1, by omega, by go_num, J8⟩
                  case measure => simp [intOf]; omega
              · obtain rfl : j = n := by omega
                have E1 := Lib.hid (show G ++ R'.filter (fun y => decide (y < j) && cl x y) = (bfsN cl ([q], t) (k + 1)).1 by rw [filt_all (cl x) (fun y hy => HLTK.out y (.inr hy)), HST.out])
                have K8 := Lib.hid (show RefK wo sb j cl ([q], t) (k + 1) (.slice (some ⟨gb, 0, none⟩) (G ++ R'.filter (fun y => decide (y < j) && cl x y)).length cg) wj from
                  ⟨by rw [← E1.out]; exact HJ.out.g, HJ.out.s.congr (fun y hy => by rw [HST.out, seenB_all _ _ _ _ hy]), HJ.out.b⟩)
                have E2 := Lib.hid (show k + 1 ≤ (bfsN cl ([q], t) (k + 1)).1.length by rw [← E1.out, List.length_append]; omega)
                clear hgb hgl
                go_wp2_with fail
                go_roundw
                case rel => exact ⟨k + 1, E2.out, by go_num, K8⟩
                case measure => simp [intOf]; omega
          · have hkl : (bfsN cl ([q], t) k).1.length = k := by omega
            have EA := bfsAll_of cl ([q], t) k hkl
            have HGk := HK.out.g
            have HSk := HK.out.s
            have HBk := HK.out.b
            have hlb : (bfsAll cl ([q], t)).1.length ≤ 200000 := by rw [EA]; omega
            have HRA := Lib.hid (show (bfsAll cl ([q], t)).2.Sublist t from bfsN_sub cl ([q], t) _)
            have HST := Lib.hid (show grpN cl ([], List.range n) (m + 1) = (Ls ++ [sortN (bfsAll cl ([q], t)).1], (bfsAll cl ([q], t)).2) by rw [grpN, HM.out]; exact grp1_cons _ _ q t rfl)
            have HKL := Lib.hid (show ¬ (k : Int) < ((bfsN cl ([q], t) k).1.length : Int) by omega)
            have HK8 := Lib.hid hkl
            have hng := HKL.out
            rw [← EA] at HGk HSk hng
            rw [← EA]
            have HS6 := Lib.hid (sortGroup_any wo.heap.size gb cg (bfsAll cl ([q], t)).1 wk hlb HGk)
            have HSK := Lib.hid HSk
            have HBK := Lib.hid HBk
            have HGB := Lib.hid (And.intro hgb hgl)
            clear EA HGk HSk HBk hlb hkl hgb hgl HK
            generalize bfsAll cl ([q], t) = P at *
            obtain ⟨G, R2⟩ := P
            simp only at *
            go_wp2_with fail
            refine HS6.out.mono ?_
            rintro e w7 ⟨rfl, hgrp, hb7⟩
            obtain ⟨vals, hw1, hw2⟩ := HR.out.g
            have hbar : wo.grownBy w7 (some sb) := ⟨hb7.os.trans HBK.out.os, hb7.tape.trans HBK.out.tape, hb7.output.trans HBK.out.output, Nat.le_trans HBK.out.size hb7.size, fun k hk hn => (hb7.block k (Nat.lt_of_lt_of_le hk HGB.out.1)).trans (HBK.out.block k hk hn)⟩
            have hrow : w7.ownsRow w1.heap.size 38 1 u8 Ls.length vals := hw1.kept hbar (by
              rcases hk : u8.ownBlock with _ | j
              · exact .inl rfl
              · refine .inr (fun e => ?_)
                have h1 := (hw1.lt j hk).1
                have h2 := S1.out
                have h3 : j = sb := by simpa using e
                have h4 := HSB.out
                omega)
            have hs3 : w1.heap.size ≤ wo.heap.size := HR.out.b.size
            have hlist : Lists w7 w1.heap.size Ls vals := hw2.kept (fun gg cur fr hN hh => hbar.block gg (Array.getElem?_eq_some_iff.1 hh).1 (fun e => by have := S1.out; have := HSB.out; simp at e; omega))
            have HLI := Lib.hid hlist
            have HRO := Lib.hid hrow
            have HGP := Lib.hid (show GrpAt w7 w1.heap.size (.slice (some ⟨gb, 0, none⟩) G.length cg) (sortN G) from by
              obtain ⟨gb', c', e, hN, r⟩ := hgrp
              exact ⟨gb', c', e, Nat.le_trans hs3 hN, r⟩)
            have HS7 := Lib.hid (show w7.rowIs sb 4 n (fun x => .bool (seen0 R2 x)) from HSK.out.of_block (hb7.block sb (by have := HGB.out; have := HR.out.s.lt; omega)))
            have HW7 := Lib.hid (bar_trans HR.out.b hbar)
            have hll : Ls.length ≤ 60 := by have := HCN.out; omega
            clear hlist hrow hgrp hbar hw1 hw2 hb7 hs3
            go_wp2_with (at_builtin; refine wpList_append_own _ rfl _ _ 31 rfl w1.heap.size 38 i0 (.slice none 0 0) 1 24 Try.underlying31 hi hz0 hz1 hz2 rfl (by decide) _ _ _ rfl (HRO.out.alloc _) ⟨w7.heap.size, 0, none⟩ 1 1 [.slice (some ⟨gb, 0, none⟩) G.length cg] rfl rfl ?e1 ?e2 ?e3 ?e4 ?e5 ?_)
            case e1 => exact cell_one_new _ _ _
            case e2 => intro u hu; simp at hu; subst hu; rfl
            case e3 => unfold maxLen; omega
            case e4 => omega
            case e5 => have := HW7.out.size; simp; omega
            intro v' w8 hown8 hgr8 _
            have K8 := Lib.hid (show ∀ gg, gg < w7.heap.size → (∀ j, u8.ownBlock = some j → gg ≠ j) → w8.heap[gg]? = w7.heap[gg]? from fun gg hg hne =>
              (hgr8.block gg (by simp; omega) (fun e => hne gg e.symm rfl)).trans (Below.heap_alloc w7 _ gg hg))
            have L8 := Lib.hid (show Lists w8 w1.heap.size (Ls ++ [sortN G]) (vals ++ [.slice (some ⟨gb, 0, none⟩) G.length cg]) from
              (HLI.out.snoc HGP.out).kept (fun gg cur fr hN hh => K8.out gg (Array.getElem?_eq_some_iff.1 hh).1 (fun j hj e => no_row HRO.out hh (by rw [hj, e]))))
            have R8 := Lib.hid (show w8.rowIs sb 4 n (fun x => .bool (seen0 R2 x)) from HS7.out.of_block (K8.out sb HS7.out.lt (fun j hj e => by have := (HRO.out.lt j hj).1; have := S1.out; have := HSB.out; omega)))
            have B8 := Lib.hid (bar_grown (bar_below HW7.out (new_below w7 _)) hgr8 (fun j hj => (HRO.out.lt j hj).1))
            have O8 := Lib.hid hown8
            clear hown8 hgr8
            go_wp2_with fail
            go_roundw
            case rel => exact ⟨q + 1, m + 1, Ls ++ [sortN G], R2, by omega, by go_num, HST, Lib.hid (fun x hx => HTL.out x (HRA.out.subset hx)), Lib.hid ⟨⟨_, by rw [List.length_append, List.length_singleton]; exact O8.out, L8.out⟩, R8.out, B8.out⟩⟩
            case measure => simp [intOf]; omega
      · rw [show seen0 R q = true by simp [seen0, hin]] at hcell
        have HLO2 := Lib.hid (show ∀ x, x ∈ R → q + 1 ≤ x from fun x hx => by
          have h1 := HLO.out x hx
          have h2 : x ≠ q := fun e => hin (e ▸ hx)
          omega)
        clear hin
        go_wp2_with fail
        go_roundw
        case rel => exact ⟨q + 1, m, Ls, R, by omega, by go_num, HM, HLO2, HR⟩
        case measure => simp [intOf]; omega
    · obtain rfl : q = n := by omega
      have hR0 : R = [] := by
        cases R with
        | nil => rfl
        | cons a t =>
          have h1 := HLO.out a (by simp)
          have h2 := HLT.out a (by simp)
          omega
      subst hR0
      obtain ⟨vals, hw1, hw2⟩ := HR.out.g
      have HV := Lib.hid (And.intro hw1 hw2)
      clear hw1 hw2
      go_wp2_with fail
      go_ret
      exact ⟨_, vals, Ls, rfl, ⟨m, HM.out⟩, owns_base HV.out.1 B1.out.size, lists_base HV.out.2 B1.out.size, ⟨HR.out.b.os.trans B1.out.os, HR.out.b.tape.trans B1.out.tape, HR.out.b.output.trans B1.out.output, Nat.le_trans B1.out.size HR.out.b.size, fun k hk => (HR.out.b.block k (Nat.lt_of_lt_of_le hk B1.out.size) (fun e => by have := HSB.out; simp at e; omega)).trans (B1.out.block k hk)⟩⟩

end Go.Proofs.Ytljjbdfpegjmcaa
namespace Go.Proofs.Ytljjbdfpegjmcaa
open Go.RowKit
set_option linter.unusedSimpArgs false
set_option linter.unusedVariables false

theorem eqGroups_zero (a b : Option Addr) (c d : Nat) (f : Value) (w : World) :
    Calls Try.prog 16 #[.slice a 0 c, .slice b 0 d, f] w fun e w' => e = .returned (.bool true) ∧ w = w' := by
  go_enter Try.func16, Try.ntmps16
  go_wp2_with fail
  go_loop [17] (fun i => i = .int .i64 0) (fun _ => 0)
  case atStart => rfl
  case round =>
    subst hrel
    go_wp2_with fail
    go_ret
    exact ⟨rfl, rfl⟩

set_option maxHeartbeats 1000000 in
set_option maxRecDepth 100000 in
theorem eqGroups_some (g1 g2 c1 c2 N1 N2 : Nat) (Ls : List (List Int)) (v1 v2 : List Value) (w : World) (hl : Ls.length ≤ 60) (hLL : ∀ i, (Ls.getD i []).length ≤ 200000)
    (h1 : w.ownsRow N1 38 1 (.slice (some ⟨g1, 0, none⟩) Ls.length c1) Ls.length v1) (k1 : Lists w N1 Ls v1)
    (h2 : w.ownsRow N2 38 1 (.slice (some ⟨g2, 0, none⟩) Ls.length c2) Ls.length v2) (k2 : Lists w N2 Ls v2) :
    Calls Try.prog 16 #[.slice (some ⟨g1, 0, none⟩) Ls.length c1, .slice (some ⟨g2, 0, none⟩) Ls.length c2, .func (.func 18) #[] #[]] w fun e w' => e = .returned (.bool true) ∧ ∃ q, w' = w.drewN q := by
  have H1 := Lib.hid h1
  have H2 := Lib.hid h2
  have K1 := Lib.hid k1
  have K2 := Lib.hid k2
  have HL := Lib.hid hLL
  obtain ⟨n, hn⟩ : ∃ n, n = Ls.length := ⟨_, rfl⟩
  have HN := Lib.hid hn
  rw [← hn] at hl ⊢
  clear h1 h2 k1 k2 hLL hn
  go_enter Try.func16, Try.ntmps16
  go_wp2_with fail
  go_loopw [17] (fun i wr => ∃ k q : Nat, k ≤ n ∧ i = .int .i64 k ∧ wr = w.drewN q) (fun i _ => n - (intOf i).toNat)
  case atStart => exact ⟨0, 0, Nat.zero_le _, rfl, rfl⟩
  case round =>
    obtain ⟨k, q, hk, rfl, rfl⟩ := hrel
    by_cases hlt : k < n
    · have hkn : k < Ls.length := by have := HN.out; omega
      obtain ⟨b1, d1, e1, _, f1, _⟩ := K1.out.2 k hkn
      obtain ⟨b2, d2, e2, _, f2, _⟩ := K2.out.2 k hkn
      have r1 : w.cell? ⟨g1, k, none⟩ = some (.slice (some ⟨b1, 0, none⟩) (Ls.getD k []).length d1) := by
        rw [H1.out.cellAt k (by omega)]
        have : k < v1.length := by rw [K1.out.1]; exact hkn
        rw [← e1]
        simp [List.getD, this]
      have r2 : w.cell? ⟨g2, k, none⟩ = some (.slice (some ⟨b2, 0, none⟩) (Ls.getD k []).length d2) := by
        rw [H2.out.cellAt k (by omega)]
        have : k < v2.length := by rw [K2.out.1]; exact hkn
        rw [← e2]
        simp [List.getD, this]
      have HQ := Lib.hid (equalInt_true b1 0 b2 0 (Ls.getD k []).length d1 d2 (fun j => (Ls.getD k []).getD j 0) (w.drewN q) (by have := HL.out k; omega) (fun j hj => f1 j hj) (fun j hj => f2 j hj))
      have i1 : (k : Int) < (n : Int) := by omega
      generalize Ls.getD k [] = L at *
      clear e1 e2 f1 f2 hkn
      go_wp2_with fail
      refine HQ.out.mono ?_
      rintro e w6 ⟨rfl, q2, rfl⟩
      go_wp2_with fail
      go_roundw
      case rel => exact ⟨k + 1, _, by omega, by go_num, rfl⟩
      case measure => simp [intOf]; omega
    · obtain rfl : k = n := by omega
      go_wp2_with fail
      go_ret
      exact ⟨rfl, q, rfl⟩

end Go.Proofs.Ytljjbdfpegjmcaa
namespace Go.Proofs.Ytljjbdfpegjmcaa
open Go.ChangeShapes Go.WideShapes Go.ChangeAt Go.RowKit Go.Joins
open Go.ChangeMaps (open_string shut_string)
set_option linter.unusedVariables false

theorem cellsBox : Try.prog.cellsOf 25 = 4 := by kernel_rfl

instance : Inhabited Bx := ⟨⟨0, 0, 0, 0⟩⟩

set_option maxRecDepth 100000 in
/-- Four cells that read as a box. -/
theorem box_cells {H : Type} {enc : TypeId × Value → H} {w : World} {base fuel : Nat} {spare : Nat → Bool} {held : Bool} {cs : List Value} {y : DataW H × List MemPlace}
    (h : DataW.trod enc Try.prog w base spare held fuel 25 cs = some y) (hl : cs.length = 4) : ∃ b : Bx, cs = [.int .i64 b.x, .int .i64 b.y, .int .i64 b.w, .int .i64 b.h] := by
  obtain ⟨y0, y1, y2, y3, n, _, _, h0, h1, h2, h3⟩ := trod_struct4 Try.underlying25 h
  match cs, hl with
  | [c0, c1, c2, c3], _ =>
    have ci : Try.prog.cellsOf 3 = 1 := by kernel_rfl
    simp only [ci, List.drop_zero, List.drop_succ_cons, List.take_succ_cons, List.take_zero] at h0 h1 h2 h3
    obtain ⟨a0, e0, _, _⟩ := DataW.trod_int Try.underlying3 h0
    obtain ⟨a1, e1, _, _⟩ := DataW.trod_int Try.underlying3 h1
    obtain ⟨a2, e2, _, _⟩ := DataW.trod_int Try.underlying3 h2
    obtain ⟨a3, e3, _, _⟩ := DataW.trod_int Try.underlying3 h3
    simp at e0 e1 e2 e3
    exact ⟨⟨a0, a1, a2, a3⟩, by rw [e0, e1, e2, e3]⟩

/-- A slice of boxes: without any, or cell by cell. -/
def IsBoxes (w : World) (s : Option Addr) (n c : Nat) (B : Nat → Bx) : Prop := (n = 0 ∧ (s = none → c = 0)) ∨ ∃ g o, s = some ⟨g, o, none⟩ ∧ n ≤ c ∧ BoxesAt w g o n B

set_option maxRecDepth 100000 in
theorem open_boxesN {W : World} {H : Type} {enc : TypeId × Value → H} {base : Nat} {held : Bool} {r : Reach} {b0 : Nat} {v : Value} {d : DataW H} {p : List MemPlace}
    (hv : Value.okWide Try.prog W r b0 22 v) (h : DataW.Trod enc Try.prog W base (fun _ => true) held 22 v d p) :
    ∃ s n c B, v = .slice s n c ∧ IsBoxes W s n c B ∧ n ≤ 9223372036854775807 := by
  obtain ⟨a1, len, cap, rfl⟩ := okWide_slice Try.underlying22 hv
  obtain ⟨fuel, hf⟩ := h
  rcases Go.Deep.open_slice Try.underlying22 hf with ⟨hcs, _⟩ | ⟨x, l, c, m, k, D, Pl, hcs, _, hl, hm, hmm, _, hcell⟩
  · simp [Value.cells] at hcs
    obtain ⟨rfl, rfl, rfl⟩ := hcs
    exact ⟨none, 0, 0, fun _ => default, rfl, .inl ⟨rfl, fun _ => rfl⟩, by decide⟩
  · simp [Value.cells] at hcs
    obtain ⟨rfl, rfl, rfl⟩ := hcs
    simp only [if_true] at hmm
    subst hmm
    obtain ⟨B, hB⟩ := Go.Deep.choose_lt (α := Bx) (p := fun i b => ((W.cell? ((x.add (i * 4)).add 0) = some (.int .i64 b.x) ∧ W.cell? ((x.add (i * 4)).add 1) = some (.int .i64 b.y)) ∧ (W.cell? ((x.add (i * 4)).add 2) = some (.int .i64 b.w) ∧ W.cell? ((x.add (i * 4)).add 3) = some (.int .i64 b.h)))) (fun i hi => by
      obtain ⟨cs', hc, ht⟩ := hcell i hi
      rw [cellsBox] at hc
      obtain ⟨_, hlen, hat⟩ := World.cells?_some hc
      obtain ⟨b, rfl⟩ := box_cells ht hlen
      exact ⟨b, ⟨hat 0 (by omega), hat 1 (by omega)⟩, hat 2 (by omega), hat 3 (by omega)⟩)
    refine ⟨some x, _, _, B, rfl, ?_, by unfold maxLen at hm; omega⟩
    by_cases h0 : len = 0
    · exact .inl ⟨h0, fun e => by cases e⟩
    · obtain ⟨g, o, spot⟩ := x
      have hspot : spot = none := by
        have := World.cell?_spot (hB 0 (by omega)).1.1
        simpa [Addr.add] using this
      subst hspot
      refine .inr ⟨g, o, rfl, hl, fun i hi => ?_⟩
      obtain ⟨⟨h1, h2⟩, h3, h4⟩ := hB i (by omega)
      rw [Addr.add_lit, Addr.add_lit] at h1 h2 h3 h4
      exact ⟨⟨h1, h2⟩, h3, h4⟩

end Go.Proofs.Ytljjbdfpegjmcaa
