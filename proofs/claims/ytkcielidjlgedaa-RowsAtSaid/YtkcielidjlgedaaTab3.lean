/- The given table of characters: Rows. -/
import Derived.Test.YtkcielidjlgedaaTab2
namespace Go.Proofs.Ytkcielidjlgedaa
open Go.RowKit
set_option linter.unusedVariables false
set_option linter.unusedSimpArgs false
set_option maxRecDepth 100000

theorem row_elt : Elt Try.prog 22 34 5 40 := elt_of Try.underlying22 (z := .agg #[.int .i64 0, .int .i64 0, .int .i64 0, .int .i64 0, .int .i64 0]) (by kernel_rfl) rfl (by decide)
theorem own_cells {α : Type} {enc : α → List Value} {X : World} {base n c k : Nat} {E : TypeId} {A : Option Addr} {L : List α} (h : X.ownsRow base E k (.slice A n c) n (flatL enc L)) (hn : 0 < n) :
    ∃ g, A = some ⟨g, 0, none⟩ ∧ base ≤ g ∧ ∀ (j : Nat) (u : Value), (flatL enc L)[j]? = some u → X.cell? ⟨g, 0 + j, none⟩ = some u := by
  obtain ⟨g, cs, rfl, hg, hB, _, _, _, hc⟩ := own_blk h hn
  exact ⟨g, rfl, hg, fun j u hu => by rw [hB.2.1, Nat.zero_add]; exact hc j u hu⟩
theorem encR_one (L : List Row) : ∀ u ∈ flatL encR L, u.oneCell' = true := by
  intro u hu
  obtain ⟨x, _, hx⟩ := List.mem_flatMap.1 hu
  simp [encR] at hx
  rcases hx with rfl | rfl | rfl | rfl | rfl <;> rfl
/-- The table so far, in a row of the call's own. -/
def TabI (w : World) (A : Option Addr) (n c : Nat) (L : List Row) (X : World) : Prop := Grows w 34 5 encR A n c L X

set_option maxHeartbeats 4000000 in
theorem rows_any (w : World) : Calls Try.prog 14 #[] w (TellsO 34 5 encR rowsT w) := by
  go_enter Try.func14, Try.ntmps14
  go_wp2_with fail
  refine (classes_any w).mono ?_
  rintro e y1 ⟨A, n, c, rfl, ho, hb⟩
  obtain rfl : 82 = n := by have := own_count encR_len (by decide) ho; rw [show classesT.length = 82 from by as_aux_lemma => kernel_rfl] at this; exact this
  obtain ⟨g, rfl, hg, hc⟩ := own_cells ho (by decide)
  have G := Lib.hid (show Grows w 34 5 encR none 0 0 ([] : List Row) y1 from (Grows.start w _ _).later hb)
  have C := Lib.hid hc
  clear ho hc hb hg
  go_wp2_with (at_builtin; refine wpList_catN (n := 0) (m := 82) (ys := flatL encR classesT) row_elt G.out.own G.out.below.size rfl rfl rfl rfl (by rw [flatL_len encR_len, show classesT.length = 82 from by as_aux_lemma => kernel_rfl]) C.out (encR_one _) (by unfold maxLen; decide) (by decide) ?_; intro A1 c1 x1 hp; have G1 := Lib.hid (G.out.pushM (m := 82) (M := classesT) (Below.refl _ _) rfl hp); clear hp G C)
  rw [List.nil_append] at G1
  go_wp2_with fail
  refine (pairs_any x1).mono ?_
  rintro e y2 ⟨A, n, c, rfl, ho, hb⟩
  obtain rfl : 178 = n := by have := own_count encR_len (by decide) ho; rw [show pairsT.length = 178 from by as_aux_lemma => kernel_rfl] at this; exact this
  obtain ⟨g, rfl, hg, hc⟩ := own_cells ho (by decide)
  have G := Lib.hid (G1.out.later hb)
  have C := Lib.hid hc
  clear ho hc hb hg
  clear G1
  go_wp2_with (at_builtin; refine wpList_catN (n := 82) (m := 178) (ys := flatL encR pairsT) row_elt G.out.own G.out.below.size rfl rfl rfl rfl (by rw [flatL_len encR_len, show pairsT.length = 178 from by as_aux_lemma => kernel_rfl]) C.out (encR_one _) (by unfold maxLen; decide) (by decide) ?_; intro A2 c2 x2 hp; have G2 := Lib.hid (G.out.pushM (m := 178) (M := pairsT) (Below.refl _ _) rfl hp); clear hp G C)
  go_wp2_with fail
  refine (outs_any x2).mono ?_
  rintro e y3 ⟨A, n, c, rfl, ho, hb⟩
  obtain rfl : 8 = n := by have := own_count encR_len (by decide) ho; rw [show outsT.length = 8 from by as_aux_lemma => kernel_rfl] at this; exact this
  obtain ⟨g, rfl, hg, hc⟩ := own_cells ho (by decide)
  have G := Lib.hid (G2.out.later hb)
  have C := Lib.hid hc
  clear ho hc hb hg
  clear G2
  go_wp2_with (at_builtin; refine wpList_catN (n := 260) (m := 8) (ys := flatL encR outsT) row_elt G.out.own G.out.below.size rfl rfl rfl rfl (by rw [flatL_len encR_len, show outsT.length = 8 from by as_aux_lemma => kernel_rfl]) C.out (encR_one _) (by unfold maxLen; decide) (by decide) ?_; intro A3 c3 x3 hp; have G3 := Lib.hid (G.out.pushM (m := 8) (M := outsT) (Below.refl _ _) rfl hp); clear hp G C)
  go_wp2_with fail
  refine (breaks_any x3).mono ?_
  rintro e y4 ⟨A, n, c, rfl, ho, hb⟩
  obtain rfl : 69 = n := by have := own_count encR_len (by decide) ho; rw [show breaksT.length = 69 from by as_aux_lemma => kernel_rfl] at this; exact this
  obtain ⟨g, rfl, hg, hc⟩ := own_cells ho (by decide)
  have G := Lib.hid (G3.out.later hb)
  have C := Lib.hid hc
  clear ho hc hb hg
  clear G3
  go_wp2_with (at_builtin; refine wpList_catN (n := 268) (m := 69) (ys := flatL encR breaksT) row_elt G.out.own G.out.below.size rfl rfl rfl rfl (by rw [flatL_len encR_len, show breaksT.length = 69 from by as_aux_lemma => kernel_rfl]) C.out (encR_one _) (by unfold maxLen; decide) (by decide) ?_; intro A4 c4 x4 hp; have G4 := Lib.hid (G.out.pushM (m := 69) (M := breaksT) (Below.refl _ _) rfl hp); clear hp G C)
  go_wp2_with fail
  refine (picts_any x4).mono ?_
  rintro e y5 ⟨A, n, c, rfl, ho, hb⟩
  obtain rfl : 22 = n := by have := own_count encR_len (by decide) ho; rw [show pictsT.length = 22 from by as_aux_lemma => kernel_rfl] at this; exact this
  obtain ⟨g, rfl, hg, hc⟩ := own_cells ho (by decide)
  have G := Lib.hid (G4.out.later hb)
  have C := Lib.hid hc
  clear ho hc hb hg
  clear G4
  go_wp2_with (at_builtin; refine wpList_catN (n := 337) (m := 22) (ys := flatL encR pictsT) row_elt G.out.own G.out.below.size rfl rfl rfl rfl (by rw [flatL_len encR_len, show pictsT.length = 22 from by as_aux_lemma => kernel_rfl]) C.out (encR_one _) (by unfold maxLen; decide) (by decide) ?_; intro A5 c5 x5 hp; have G5 := Lib.hid (G.out.pushM (m := 22) (M := pictsT) (Below.refl _ _) rfl hp); clear hp G C)
  go_wp2_with fail
  refine (conjs_any x5).mono ?_
  rintro e y6 ⟨A, n, c, rfl, ho, hb⟩
  obtain rfl : 5 = n := by have := own_count encR_len (by decide) ho; rw [show conjsT.length = 5 from by as_aux_lemma => kernel_rfl] at this; exact this
  obtain ⟨g, rfl, hg, hc⟩ := own_cells ho (by decide)
  have G := Lib.hid (G5.out.later hb)
  have C := Lib.hid hc
  clear ho hc hb hg
  clear G5
  go_wp2_with (at_builtin; refine wpList_catN (n := 359) (m := 5) (ys := flatL encR conjsT) row_elt G.out.own G.out.below.size rfl rfl rfl rfl (by rw [flatL_len encR_len, show conjsT.length = 5 from by as_aux_lemma => kernel_rfl]) C.out (encR_one _) (by unfold maxLen; decide) (by decide) ?_; intro A6 c6 x6 hp; have G6 := Lib.hid (G.out.pushM (m := 5) (M := conjsT) (Below.refl _ _) rfl hp); clear hp G C)
  go_wp2_with fail
  refine (wides_any x6).mono ?_
  rintro e y7 ⟨A, n, c, rfl, ho, hb⟩
  obtain rfl : 21 = n := by have := own_count encR_len (by decide) ho; rw [show widesT.length = 21 from by as_aux_lemma => kernel_rfl] at this; exact this
  obtain ⟨g, rfl, hg, hc⟩ := own_cells ho (by decide)
  have G := Lib.hid (G6.out.later hb)
  have C := Lib.hid hc
  clear ho hc hb hg
  clear G6
  go_wp2_with (at_builtin; refine wpList_catN (n := 364) (m := 21) (ys := flatL encR widesT) row_elt G.out.own G.out.below.size rfl rfl rfl rfl (by rw [flatL_len encR_len, show widesT.length = 21 from by as_aux_lemma => kernel_rfl]) C.out (encR_one _) (by unfold maxLen; decide) (by decide) ?_; intro A7 c7 x7 hp; have G7 := Lib.hid (G.out.pushM (m := 21) (M := widesT) (Below.refl _ _) rfl hp); clear hp G C)
  go_wp2_with fail
  refine (letters_any x7).mono ?_
  rintro e y8 ⟨A, n, c, rfl, ho, hb⟩
  obtain rfl : 34 = n := by have := own_count encR_len (by decide) ho; rw [show lettersT.length = 34 from by as_aux_lemma => kernel_rfl] at this; exact this
  obtain ⟨g, rfl, hg, hc⟩ := own_cells ho (by decide)
  have G := Lib.hid (G7.out.later hb)
  have C := Lib.hid hc
  clear ho hc hb hg
  clear G7
  go_wp2_with (at_builtin; refine wpList_catN (n := 385) (m := 34) (ys := flatL encR lettersT) row_elt G.out.own G.out.below.size rfl rfl rfl rfl (by rw [flatL_len encR_len, show lettersT.length = 34 from by as_aux_lemma => kernel_rfl]) C.out (encR_one _) (by unfold maxLen; decide) (by decide) ?_; intro A8 c8 x8 hp; have G8 := Lib.hid (G.out.pushM (m := 34) (M := lettersT) (Below.refl _ _) rfl hp); clear hp G C)
  go_ret
  have h := G8.out.tells
  exact h
end Go.Proofs.Ytkcielidjlgedaa
