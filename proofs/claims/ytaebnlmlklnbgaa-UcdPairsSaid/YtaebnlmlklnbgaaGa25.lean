/- What comes in: a slice of ints reads as a function of the place. -/
import Derived.Test.YtaebnlmlklnbgaaGa08
import Derived.Test.YtaebnlmlklnbgaaGa24
import Derived.Test.YtaebnlmlklnbgaaGa22
import Derived.Test.YtaebnlmlklnbgaaGa23
import Derived.Test.YtaebnlmlklnbgaaGa01
namespace Go.Proofs.Ytaebnlmlklnbgaa.RW
open Go.RowKit
set_option linter.unusedVariables false
set_option linter.unusedSimpArgs false
set_option maxRecDepth 100000

def rowV (x : Row) : Value := .agg (encR x).toArray
theorem rows_flat (L : List Row) : ((L.map rowV).flatMap fun v => v.cells.toList) = flatL encR L := by
  induction L with
  | nil => rfl
  | cons x L ih => simp only [List.map_cons, List.flatMap_cons, flatL] at ih ⊢; rw [ih]; rfl
theorem rows_size : ∀ L : List Row, (L.map rowV).all (fun v => v.cells.size == 5) = true
  | [] => rfl
  | x :: L => by simp only [List.map_cons, List.all_cons, rows_size L, Bool.and_true]; rfl
theorem rows_sizeOf : ∀ w, (sizeOf 61).run Try.prog w = .ok 5 w := fun w => by kernel_rfl
theorem rows_zero : ∀ w, (zeroValue 61).run Try.prog w = .ok (.agg #[.int .i64 0, .int .i64 0, .int .i64 0, .int .i64 0, .int .i64 0]) w := fun w => by kernel_rfl
theorem rows_tells (L : List Row) (N : Nat) (hN : L.length = N) (hm : N ≤ 1000) (w : World) : TellsO 61 5 encR L w (.returned (.slice (some ⟨w.heap.size, 0, none⟩) N N)) (w.alloc (.cells ((L.map rowV).flatMap fun v => v.cells.toList).toArray 61)) := by
  rw [rows_flat]
  refine ⟨_, _, _, rfl, ?_, (Below.refl _ _).alloc (Nat.le_refl _) _⟩
  have := own_newN w (flatL encR L).toArray 61 5 N (by simp [flatL_len encR_len, hN]) (by unfold maxLen; omega)
  simpa using this

theorem classes_any (w : World) : Calls Try.prog 16 #[] w (TellsO 61 5 encR classesT w) := by
  refine calls_of_wp Try.func16 rfl ?_
  exact calls_table_at 23 61 5 82 _ (classesT.map rowV) Try.underlying23 rows_sizeOf rows_zero rfl (by decide) (by as_aux_lemma => kernel_rfl) (by decide) (by decide) (rows_size _) rfl (by as_aux_lemma => kernel_rfl) rfl (by as_aux_lemma => kernel_rfl) (fun a w => by as_aux_lemma => kernel_rfl) (by as_aux_lemma => kernel_rfl) (rows_tells _ _ (by as_aux_lemma => kernel_rfl) (by decide) w)

theorem pairs_any (w : World) : Calls Try.prog 17 #[] w (TellsO 61 5 encR pairsT w) := by
  refine calls_of_wp Try.func17 rfl ?_
  exact calls_table_at 23 61 5 178 _ (pairsT.map rowV) Try.underlying23 rows_sizeOf rows_zero rfl (by decide) (by as_aux_lemma => kernel_rfl) (by decide) (by decide) (rows_size _) rfl (by as_aux_lemma => kernel_rfl) rfl (by as_aux_lemma => kernel_rfl) (fun a w => by as_aux_lemma => kernel_rfl) (by as_aux_lemma => kernel_rfl) (rows_tells _ _ (by as_aux_lemma => kernel_rfl) (by decide) w)

theorem outs_any (w : World) : Calls Try.prog 18 #[] w (TellsO 61 5 encR outsT w) := by
  refine calls_of_wp Try.func18 rfl ?_
  exact calls_table_at 23 61 5 8 _ (outsT.map rowV) Try.underlying23 rows_sizeOf rows_zero rfl (by decide) (by as_aux_lemma => kernel_rfl) (by decide) (by decide) (rows_size _) rfl (by as_aux_lemma => kernel_rfl) rfl (by as_aux_lemma => kernel_rfl) (fun a w => by as_aux_lemma => kernel_rfl) (by as_aux_lemma => kernel_rfl) (rows_tells _ _ (by as_aux_lemma => kernel_rfl) (by decide) w)

theorem breaks_any (w : World) : Calls Try.prog 19 #[] w (TellsO 61 5 encR breaksT w) := by
  refine calls_of_wp Try.func19 rfl ?_
  exact calls_table_at 23 61 5 69 _ (breaksT.map rowV) Try.underlying23 rows_sizeOf rows_zero rfl (by decide) (by as_aux_lemma => kernel_rfl) (by decide) (by decide) (rows_size _) rfl (by as_aux_lemma => kernel_rfl) rfl (by as_aux_lemma => kernel_rfl) (fun a w => by as_aux_lemma => kernel_rfl) (by as_aux_lemma => kernel_rfl) (rows_tells _ _ (by as_aux_lemma => kernel_rfl) (by decide) w)

theorem picts_any (w : World) : Calls Try.prog 20 #[] w (TellsO 61 5 encR pictsT w) := by
  refine calls_of_wp Try.func20 rfl ?_
  exact calls_table_at 23 61 5 22 _ (pictsT.map rowV) Try.underlying23 rows_sizeOf rows_zero rfl (by decide) (by as_aux_lemma => kernel_rfl) (by decide) (by decide) (rows_size _) rfl (by as_aux_lemma => kernel_rfl) rfl (by as_aux_lemma => kernel_rfl) (fun a w => by as_aux_lemma => kernel_rfl) (by as_aux_lemma => kernel_rfl) (rows_tells _ _ (by as_aux_lemma => kernel_rfl) (by decide) w)

theorem conjs_any (w : World) : Calls Try.prog 21 #[] w (TellsO 61 5 encR conjsT w) := by
  refine calls_of_wp Try.func21 rfl ?_
  exact calls_table_at 23 61 5 5 _ (conjsT.map rowV) Try.underlying23 rows_sizeOf rows_zero rfl (by decide) (by as_aux_lemma => kernel_rfl) (by decide) (by decide) (rows_size _) rfl (by as_aux_lemma => kernel_rfl) rfl (by as_aux_lemma => kernel_rfl) (fun a w => by as_aux_lemma => kernel_rfl) (by as_aux_lemma => kernel_rfl) (rows_tells _ _ (by as_aux_lemma => kernel_rfl) (by decide) w)

theorem wides_any (w : World) : Calls Try.prog 22 #[] w (TellsO 61 5 encR widesT w) := by
  refine calls_of_wp Try.func22 rfl ?_
  exact calls_table_at 23 61 5 21 _ (widesT.map rowV) Try.underlying23 rows_sizeOf rows_zero rfl (by decide) (by as_aux_lemma => kernel_rfl) (by decide) (by decide) (rows_size _) rfl (by as_aux_lemma => kernel_rfl) rfl (by as_aux_lemma => kernel_rfl) (fun a w => by as_aux_lemma => kernel_rfl) (by as_aux_lemma => kernel_rfl) (rows_tells _ _ (by as_aux_lemma => kernel_rfl) (by decide) w)

theorem letters_any (w : World) : Calls Try.prog 23 #[] w (TellsO 61 5 encR lettersT w) := by
  refine calls_of_wp Try.func23 rfl ?_
  exact calls_table_at 23 61 5 34 _ (lettersT.map rowV) Try.underlying23 rows_sizeOf rows_zero rfl (by decide) (by as_aux_lemma => kernel_rfl) (by decide) (by decide) (rows_size _) rfl (by as_aux_lemma => kernel_rfl) rfl (by as_aux_lemma => kernel_rfl) (fun a w => by as_aux_lemma => kernel_rfl) (by as_aux_lemma => kernel_rfl) (rows_tells _ _ (by as_aux_lemma => kernel_rfl) (by decide) w)

end Go.Proofs.Ytaebnlmlklnbgaa.RW

namespace Go.Proofs.Ytaebnlmlklnbgaa.RW
open Go.RowKit
set_option linter.unusedVariables false
set_option linter.unusedSimpArgs false
set_option maxRecDepth 100000

theorem row_elt : Elt Try.prog 23 61 5 40 := elt_of Try.underlying23 (z := .agg #[.int .i64 0, .int .i64 0, .int .i64 0, .int .i64 0, .int .i64 0]) (by kernel_rfl) rfl (by decide)
theorem own_cells {α : Type} {enc : α → List Value} {X : World} {base n c k : Nat} {E : TypeId} {A : Option Addr} {L : List α} (h : X.ownsRow base E k (.slice A n c) n (flatL enc L)) (hn : 0 < n) :
    ∃ g, A = some ⟨g, 0, none⟩ ∧ base ≤ g ∧ ∀ (j : Nat) (u : Value), (flatL enc L)[j]? = some u → X.cell? ⟨g, 0 + j, none⟩ = some u := by
  obtain ⟨g, cs, rfl, hg, hB, _, _, _, hc⟩ := own_blk h hn
  exact ⟨g, rfl, hg, fun j u hu => by rw [hB.2.1, Nat.zero_add]; exact hc j u hu⟩
theorem encR_one (L : List Row) : ∀ u ∈ flatL encR L, u.oneCell' = true := by
  intro u hu
  obtain ⟨x, _, hx⟩ := List.mem_flatMap.1 hu
  simp [encR] at hx
  rcases hx with rfl | rfl | rfl | rfl | rfl <;> rfl
/-- The table so far, in a row of the call's own. -/
def TabI (w : World) (A : Option Addr) (n c : Nat) (L : List Row) (X : World) : Prop := Grows w 61 5 encR A n c L X

set_option maxHeartbeats 4000000 in
theorem rows_any (w : World) : Calls Try.prog 5 #[] w (TellsO 61 5 encR rowsT w) := by
  go_enter Try.func5, Try.ntmps5
  go_wp2_with fail
  refine (classes_any w).mono ?_
  rintro e y1 ⟨A, n, c, rfl, ho, hb⟩
  obtain rfl : 82 = n := by have := own_count encR_len (by decide) ho; rw [show classesT.length = 82 from by as_aux_lemma => kernel_rfl] at this; exact this
  obtain ⟨g, rfl, hg, hc⟩ := own_cells ho (by decide)
  have G := Lib.hid (show Grows w 61 5 encR none 0 0 ([] : List Row) y1 from (Grows.start w _ _).later hb)
  have C := Lib.hid hc
  clear ho hc hb hg
  go_wp2_with (at_builtin; refine wpList_catN (n := 0) (m := 82) (ys := flatL encR classesT) row_elt G.out.own G.out.below.size rfl rfl rfl rfl (by rw [flatL_len encR_len, show classesT.length = 82 from by as_aux_lemma => kernel_rfl]) C.out (encR_one _) (by unfold maxLen; decide) (by decide) ?_; intro A1 c1 x1 hp; have G1 := Lib.hid (G.out.pushM (m := 82) (M := classesT) (Below.refl _ _) rfl hp); clear hp G C)
  rw [List.nil_append] at G1
  go_wp2_with fail
  refine (pairs_any x1).mono ?_
  rintro e y2 ⟨A, n, c, rfl, ho, hb⟩
  obtain rfl : 178 = n := by have := own_count encR_len (by decide) ho; rw [show pairsT.length = 178 from by as_aux_lemma => kernel_rfl] at this; exact this
  obtain ⟨g, rfl, hg, hc⟩ := own_cells ho (by decide)
  have G := Lib.hid (G1.out.later hb)
  have C := Lib.hid hc
  clear ho hc hb hg
  clear G1
  go_wp2_with (at_builtin; refine wpList_catN (n := 82) (m := 178) (ys := flatL encR pairsT) row_elt G.out.own G.out.below.size rfl rfl rfl rfl (by rw [flatL_len encR_len, show pairsT.length = 178 from by as_aux_lemma => kernel_rfl]) C.out (encR_one _) (by unfold maxLen; decide) (by decide) ?_; intro A2 c2 x2 hp; have G2 := Lib.hid (G.out.pushM (m := 178) (M := pairsT) (Below.refl _ _) rfl hp); clear hp G C)
  go_wp2_with fail
  refine (outs_any x2).mono ?_
  rintro e y3 ⟨A, n, c, rfl, ho, hb⟩
  obtain rfl : 8 = n := by have := own_count encR_len (by decide) ho; rw [show outsT.length = 8 from by as_aux_lemma => kernel_rfl] at this; exact this
  obtain ⟨g, rfl, hg, hc⟩ := own_cells ho (by decide)
  have G := Lib.hid (G2.out.later hb)
  have C := Lib.hid hc
  clear ho hc hb hg
  clear G2
  go_wp2_with (at_builtin; refine wpList_catN (n := 260) (m := 8) (ys := flatL encR outsT) row_elt G.out.own G.out.below.size rfl rfl rfl rfl (by rw [flatL_len encR_len, show outsT.length = 8 from by as_aux_lemma => kernel_rfl]) C.out (encR_one _) (by unfold maxLen; decide) (by decide) ?_; intro A3 c3 x3 hp; have G3 := Lib.hid (G.out.pushM (m := 8) (M := outsT) (Below.refl _ _) rfl hp); clear hp G C)
  go_wp2_with fail
  refine (breaks_any x3).mono ?_
  rintro e y4 ⟨A, n, c, rfl, ho, hb⟩
  obtain rfl : 69 = n := by have := own_count encR_len (by decide) ho; rw [show breaksT.length = 69 from by as_aux_lemma => kernel_rfl] at this; exact this
  obtain ⟨g, rfl, hg, hc⟩ := own_cells ho (by decide)
  have G := Lib.hid (G3.out.later hb)
  have C := Lib.hid hc
  clear ho hc hb hg
  clear G3
  go_wp2_with (at_builtin; refine wpList_catN (n := 268) (m := 69) (ys := flatL encR breaksT) row_elt G.out.own G.out.below.size rfl rfl rfl rfl (by rw [flatL_len encR_len, show breaksT.length = 69 from by as_aux_lemma => kernel_rfl]) C.out (encR_one _) (by unfold maxLen; decide) (by decide) ?_; intro A4 c4 x4 hp; have G4 := Lib.hid (G.out.pushM (m := 69) (M := breaksT) (Below.refl _ _) rfl hp); clear hp G C)
  go_wp2_with fail
  refine (picts_any x4).mono ?_
  rintro e y5 ⟨A, n, c, rfl, ho, hb⟩
  obtain rfl : 22 = n := by have := own_count encR_len (by decide) ho; rw [show pictsT.length = 22 from by as_aux_lemma => kernel_rfl] at this; exact this
  obtain ⟨g, rfl, hg, hc⟩ := own_cells ho (by decide)
  have G := Lib.hid (G4.out.later hb)
  have C := Lib.hid hc
  clear ho hc hb hg
  clear G4
  go_wp2_with (at_builtin; refine wpList_catN (n := 337) (m := 22) (ys := flatL encR pictsT) row_elt G.out.own G.out.below.size rfl rfl rfl rfl (by rw [flatL_len encR_len, show pictsT.length = 22 from by as_aux_lemma => kernel_rfl]) C.out (encR_one _) (by unfold maxLen; decide) (by decide) ?_; intro A5 c5 x5 hp; have G5 := Lib.hid (G.out.pushM (m := 22) (M := pictsT) (Below.refl _ _) rfl hp); clear hp G C)
  go_wp2_with fail
  refine (conjs_any x5).mono ?_
  rintro e y6 ⟨A, n, c, rfl, ho, hb⟩
  obtain rfl : 5 = n := by have := own_count encR_len (by decide) ho; rw [show conjsT.length = 5 from by as_aux_lemma => kernel_rfl] at this; exact this
  obtain ⟨g, rfl, hg, hc⟩ := own_cells ho (by decide)
  have G := Lib.hid (G5.out.later hb)
  have C := Lib.hid hc
  clear ho hc hb hg
  clear G5
  go_wp2_with (at_builtin; refine wpList_catN (n := 359) (m := 5) (ys := flatL encR conjsT) row_elt G.out.own G.out.below.size rfl rfl rfl rfl (by rw [flatL_len encR_len, show conjsT.length = 5 from by as_aux_lemma => kernel_rfl]) C.out (encR_one _) (by unfold maxLen; decide) (by decide) ?_; intro A6 c6 x6 hp; have G6 := Lib.hid (G.out.pushM (m := 5) (M := conjsT) (Below.refl _ _) rfl hp); clear hp G C)
  go_wp2_with fail
  refine (wides_any x6).mono ?_
  rintro e y7 ⟨A, n, c, rfl, ho, hb⟩
  obtain rfl : 21 = n := by have := own_count encR_len (by decide) ho; rw [show widesT.length = 21 from by as_aux_lemma => kernel_rfl] at this; exact this
  obtain ⟨g, rfl, hg, hc⟩ := own_cells ho (by decide)
  have G := Lib.hid (G6.out.later hb)
  have C := Lib.hid hc
  clear ho hc hb hg
  clear G6
  go_wp2_with (at_builtin; refine wpList_catN (n := 364) (m := 21) (ys := flatL encR widesT) row_elt G.out.own G.out.below.size rfl rfl rfl rfl (by rw [flatL_len encR_len, show widesT.length = 21 from by as_aux_lemma => kernel_rfl]) C.out (encR_one _) (by unfold maxLen; decide) (by decide) ?_; intro A7 c7 x7 hp; have G7 := Lib.hid (G.out.pushM (m := 21) (M := widesT) (Below.refl _ _) rfl hp); clear hp G C)
  go_wp2_with fail
  refine (letters_any x7).mono ?_
  rintro e y8 ⟨A, n, c, rfl, ho, hb⟩
  obtain rfl : 34 = n := by have := own_count encR_len (by decide) ho; rw [show lettersT.length = 34 from by as_aux_lemma => kernel_rfl] at this; exact this
  obtain ⟨g, rfl, hg, hc⟩ := own_cells ho (by decide)
  have G := Lib.hid (G7.out.later hb)
  have C := Lib.hid hc
  clear ho hc hb hg
  clear G7
  go_wp2_with (at_builtin; refine wpList_catN (n := 385) (m := 34) (ys := flatL encR lettersT) row_elt G.out.own G.out.below.size rfl rfl rfl rfl (by rw [flatL_len encR_len, show lettersT.length = 34 from by as_aux_lemma => kernel_rfl]) C.out (encR_one _) (by unfold maxLen; decide) (by decide) ?_; intro A8 c8 x8 hp; have G8 := Lib.hid (G.out.pushM (m := 34) (M := lettersT) (Below.refl _ _) rfl hp); clear hp G C)
  go_ret
  have h := G8.out.tells
  exact h
end Go.Proofs.Ytaebnlmlklnbgaa.RW

namespace Go.Proofs.Ytaebnlmlklnbgaa
open Go.RowKit
set_option linter.unusedVariables false
set_option linter.unusedSimpArgs false

/-- What is asked of the given table. -/
structure Given (T : List RW.Row) : Prop where
  len : T.length ≤ 500
  wf : ∀ x ∈ T, (Lit.int .i64 x.a).wf = true
  one : oneB T = true
  cls : at0 0 (vget 1 T) 769 = 230
  pair : at0 (0, 0) (pget2 T) 233 = (101, 769)
  comp : RW.compR T 101 769 = (233, true)
  out : outT T 8491 = true
  brk : breakB (vget 4 T) 44032 = 12
set_option maxRecDepth 100000 in
theorem given : Given RW.rowsT := by
  have hw : (RW.rowsT.all fun x => (Lit.int .i64 x.a).wf) = true := by decide +kernel
  exact ⟨by decide +kernel, fun x hx => List.all_eq_true.1 hw x hx, by decide +kernel, by decide +kernel, by decide +kernel, by decide +kernel, by decide +kernel, by decide +kernel⟩
theorem rows_li (w : World) : ∃ T, Given T ∧ RW.rowsT = T ∧ Calls Try.prog 5 #[] w fun e w' => ∃ A c, e = .returned (.slice A T.length c) ∧ Li 5 RW.encR w' (fun b => w.heap.size ≤ b) A T ∧ T.length ≤ c ∧ c ≤ 9223372036854775807 ∧ Below w.heap.size w w' := by
  refine ⟨_, given, rfl, (RW.rows_any w).mono ?_⟩
  rintro e w' ⟨A, n, c, rfl, ho, hb⟩
  have hn := own_count RW.encR_len (by decide) ho
  have hl := (LiV.own RW.encR_len (by decide) ho).parts
  subst hn
  exact ⟨A, c, rfl, hl.2.1, hl.2.2.2.1, hl.2.2.2.2, hb⟩

/-- The tables lie there. -/
def Tabs (T : List RW.Row) (tp : Nat) (W : World) : Prop := ∃ lo hi, hi ≤ W.heap.size ∧ Ucd lo hi T tp W
theorem Tabs.later {T : List RW.Row} {tp : Nat} {W W' : World} (h : Tabs T tp W) (hb : Below W.heap.size W W') : Tabs T tp W' := by
  obtain ⟨lo, hi, h1, h2⟩ := h
  exact ⟨lo, hi, Nat.le_trans h1 hb.size, h2.later (hb.mono h1)⟩
section
variable {T : List RW.Row} {tp : Nat} {W : World}
theorem tclass (h : Tabs T tp W) (r : Int) (r0 : -2147483648 ≤ r) (r1 : r ≤ 2147483647) :
    Calls Try.prog 32 #[.pointer (some ⟨tp, 0, none⟩), .int .i32 r] W (fun e w' => e = .returned (.int .i64 (at0 0 (vget 1 T) r)) ∧ Below W.heap.size W w') := by
  obtain ⟨lo, hi, _, h⟩ := h
  exact uclass h r r0 r1
theorem tpair (h : Tabs T tp W) (r : Int) (r0 : -2147483648 ≤ r) (r1 : r ≤ 2147483647) :
    Calls Try.prog 7 #[.pointer (some ⟨tp, 0, none⟩), .int .i32 r] W (fun e w' => e = .returned (.tuple #[.int .i32 (at0 (0, 0) (pget2 T) r).1, .int .i32 (at0 (0, 0) (pget2 T) r).2, .bool (at0 (0, 0) (pget2 T) r != (0, 0))]) ∧ Below W.heap.size W w') := by
  obtain ⟨lo, hi, _, h⟩ := h
  exact upair h r r0 r1
theorem tout (h : Tabs T tp W) (r : Int) (r0 : -2147483648 ≤ r) (r1 : r ≤ 2147483647) :
    Calls Try.prog 9 #[.pointer (some ⟨tp, 0, none⟩), .int .i32 r] W (fun e w' => e = .returned (.bool (outT T r)) ∧ Below W.heap.size W w') := by
  obtain ⟨lo, hi, _, h⟩ := h
  exact uout h r r0 r1
end
/-- What the maps say. -/
theorem Tabs.said {T : List RW.Row} {tp : Nat} {W : World} (h : Tabs T tp W) : ∃ l c b6 b7 n6 n7, CompS T l c ∧ W.cell? ⟨tp, 6, none⟩ = some (.map (some b6)) ∧ Mp W b6 n6 l ∧ W.cell? ⟨tp, 7, none⟩ = some (.map (some b7)) ∧ Ms W b7 n7 c := by
  obtain ⟨lo, hi, _, h⟩ := h
  obtain ⟨l, c, b6, b7, n6, n7, hc, h⟩ := h.said
  exact ⟨l, c, b6, b7, n6, n7, hc, h W (Below.refl _ _)⟩
theorem build_tabs (A : Option Addr) (c : Nat) (T : List RW.Row) (w : World) (hL : Li 5 RW.encR w (fun _ => True) A T) (hc : T.length ≤ c) (hG : Given T) :
    Calls Try.prog 6 #[.slice A T.length c] w fun e w' => ∃ tp, e = .returned (.pointer (some ⟨tp, 0, none⟩)) ∧ Tabs T tp w' ∧ Below w.heap.size w w' := by
  refine (ucd_any A c T w hL hc hG.len hG.wf).mono ?_
  rintro e w' ⟨tp, e1, hU, hb⟩
  exact ⟨tp, e1, ⟨_, _, Nat.le_refl _, hU⟩, hb⟩

end Go.Proofs.Ytaebnlmlklnbgaa

namespace Go.Proofs.Ytaebnlmlklnbgaa
open Go.ChangeShapes Go.WideShapes Go.ChangeAt Go.RowKit
set_option linter.unusedVariables false
set_option linter.unusedSimpArgs false

theorem wf_i32 {a : Int} (h : (Lit.int .i32 a).wf = true) : -2147483648 ≤ a ∧ a ≤ 2147483647 := by
  simp [Lit.wf, IntKind.min, IntKind.max, IntKind.bits, IntKind.signed] at h; omega
theorem wf_i64 {a : Int} (h : (Lit.int .i64 a).wf = true) : -9223372036854775808 ≤ a ∧ a ≤ 9223372036854775807 := by
  simp [Lit.wf, IntKind.min, IntKind.max, IntKind.bits, IntKind.signed] at h; omega
theorem wf_u8 {a : Int} (h : (Lit.int .u8 a).wf = true) : 0 ≤ a ∧ a ≤ 255 := by
  simp [Lit.wf, IntKind.min, IntKind.max, IntKind.bits, IntKind.signed] at h; omega

/-- What is known of a slice that came in: n places of one cell each. -/
structure Came (W : World) (v : Value) (A : Option Addr) (n c : Nat) (f : Nat → Value) : Prop where
  eq : v = .slice A n c
  rd : Rd W A n f
  le : n ≤ c
  max : c ≤ maxLen
  nil : A = none → n = 0 ∧ c = 0
  plain : ∀ a, A = some a → 0 < n → a.spot = none

theorem arg_ints {H : Type} {enc : TypeId × Value → H} {P : Program} {W : World} {base : Nat} {T E : TypeId} {k : IntKind} {r : Reach} {b0 : Nat} {v : Value} {d : DataW H} {p : List MemPlace} {spare : Nat → Bool} {held : Bool}
    (hT : P.underlying T = some (.slice E)) (hE : P.underlying E = some (.int k)) (hc : P.cellsOf E = 1) (hv : Value.okWide P W r b0 T v) (h : DataW.Trod enc P W base spare held T v d p) :
    ∃ A n c, ∃ f : Nat → Int, Came W v A n c (fun j => .int k (f j)) ∧ ∀ j, j < n → (Lit.int k (f j)).wf = true := by
  obtain ⟨a0, n, c, rfl⟩ := okWide_slice hT hv
  obtain ⟨fuel, hf⟩ := h
  rcases open_ints hT hE hc hf with ⟨hcs, _⟩ | ⟨a, len, cap, zs, hcs, _, hle, hmax, hlen, _, hcell, hwf⟩
  · simp [Value.cells] at hcs
    obtain ⟨rfl, rfl, rfl⟩ := hcs
    exact ⟨none, 0, 0, fun _ => 0, ⟨rfl, Rd.empty _ _ _, Nat.le_refl _, Nat.zero_le _, fun _ => ⟨rfl, rfl⟩, (fun a ha => by cases ha)⟩, fun j hj => absurd hj (by omega)⟩
  · simp [Value.cells] at hcs
    obtain ⟨rfl, rfl, rfl⟩ := hcs
    have hn : n ≤ zs.length := by rw [hlen]; split <;> omega
    refine ⟨some a, n, c, fun j => zs.getD j 0, ⟨rfl, ?_, hle, hmax, (fun e => by cases e), ?_⟩, fun j hj => ?_⟩
    · intro j hj
      obtain ⟨b, off, rfl, hc'⟩ := ints_at hcell (by omega)
      have := hc' j (by omega)
      exact ⟨b, off, rfl, World.block_lt_of_cell? _ _ this, this⟩
    · intro a' ha hp
      injection ha with ha
      subst ha
      obtain ⟨b, off, rfl, _⟩ := ints_at hcell (by omega)
      rfl
    · have hj' : j < zs.length := by omega
      show (Lit.int k (zs.getD j 0)).wf = true
      rw [show zs.getD j 0 = zs[j] by simp [List.getD, List.getElem?_eq_getElem hj']]
      exact hwf _ (List.getElem_mem hj')

end Go.Proofs.Ytaebnlmlklnbgaa
