/- ucd: Break, of the given table. -/
import Derived.Test.YtggapcfjcdafpaaGreatGb08
import Derived.Test.YtggapcfjcdafpaaGreatGb24
import Derived.Test.YtggapcfjcdafpaaGreatGb22
import Derived.Test.YtggapcfjcdafpaaGreatGb23
import Derived.Test.YtggapcfjcdafpaaGreatGb15
import Derived.Test.YtggapcfjcdafpaaGreatGb21
namespace Go.Proofs.YtggapcfjcdafpaaGreat.RW
open Go.RowKit
set_option linter.unusedVariables false
set_option linter.unusedSimpArgs false
set_option maxRecDepth 100000

def rowV (x : Row) : Value := .agg (encR x).toArray
theorem rows_flat (L : List Row) : ((L.map rowV).flatMap fun v => v.cells.toList) = flatL encR L := by
  induction L with
  | nil => rfl
  | cons x L ih => simp only [List.map_cons, List.flatMap_cons, flatL] at ih ⊢; rw [ih]; rfl
theorem rows_size : ∀ L : List Row, (L.map rowV).all (fun v => v.cells.size == 5) = true
  | [] => rfl
  | x :: L => by simp only [List.map_cons, List.all_cons, rows_size L, Bool.and_true]; rfl
theorem rows_sizeOf : ∀ w, (sizeOf 79).run Tryz.prog w = .ok 5 w := fun w => by kernel_rfl
theorem rows_zero : ∀ w, (zeroValue 79).run Tryz.prog w = .ok (.agg #[.int .i64 0, .int .i64 0, .int .i64 0, .int .i64 0, .int .i64 0]) w := fun w => by kernel_rfl
theorem rows_tells (L : List Row) (N : Nat) (hN : L.length = N) (hm : N ≤ 1000) (w : World) : TellsO 79 5 encR L w (.returned (.slice (some ⟨w.heap.size, 0, none⟩) N N)) (w.alloc (.cells ((L.map rowV).flatMap fun v => v.cells.toList).toArray 79)) := by
  rw [rows_flat]
  refine ⟨_, _, _, rfl, ?_, (Below.refl _ _).alloc (Nat.le_refl _) _⟩
  have := own_newN w (flatL encR L).toArray 79 5 N (by simp [flatL_len encR_len, hN]) (by unfold maxLen; omega)
  simpa using this

theorem classes_any (w : World) : Calls Tryz.prog 35 #[] w (TellsO 79 5 encR classesT w) := by
  refine calls_of_wp Tryz.func35 rfl ?_
  exact calls_table_at 24 79 5 82 _ (classesT.map rowV) Tryz.underlying24 rows_sizeOf rows_zero rfl (by decide) (by as_aux_lemma => kernel_rfl) (by decide) (by decide) (rows_size _) rfl (by as_aux_lemma => kernel_rfl) rfl (by as_aux_lemma => kernel_rfl) (fun a w => by as_aux_lemma => kernel_rfl) (by as_aux_lemma => kernel_rfl) (rows_tells _ _ (by as_aux_lemma => kernel_rfl) (by decide) w)

theorem pairs_any (w : World) : Calls Tryz.prog 36 #[] w (TellsO 79 5 encR pairsT w) := by
  refine calls_of_wp Tryz.func36 rfl ?_
  exact calls_table_at 24 79 5 178 _ (pairsT.map rowV) Tryz.underlying24 rows_sizeOf rows_zero rfl (by decide) (by as_aux_lemma => kernel_rfl) (by decide) (by decide) (rows_size _) rfl (by as_aux_lemma => kernel_rfl) rfl (by as_aux_lemma => kernel_rfl) (fun a w => by as_aux_lemma => kernel_rfl) (by as_aux_lemma => kernel_rfl) (rows_tells _ _ (by as_aux_lemma => kernel_rfl) (by decide) w)

theorem outs_any (w : World) : Calls Tryz.prog 37 #[] w (TellsO 79 5 encR outsT w) := by
  refine calls_of_wp Tryz.func37 rfl ?_
  exact calls_table_at 24 79 5 8 _ (outsT.map rowV) Tryz.underlying24 rows_sizeOf rows_zero rfl (by decide) (by as_aux_lemma => kernel_rfl) (by decide) (by decide) (rows_size _) rfl (by as_aux_lemma => kernel_rfl) rfl (by as_aux_lemma => kernel_rfl) (fun a w => by as_aux_lemma => kernel_rfl) (by as_aux_lemma => kernel_rfl) (rows_tells _ _ (by as_aux_lemma => kernel_rfl) (by decide) w)

theorem breaks_any (w : World) : Calls Tryz.prog 38 #[] w (TellsO 79 5 encR breaksT w) := by
  refine calls_of_wp Tryz.func38 rfl ?_
  exact calls_table_at 24 79 5 69 _ (breaksT.map rowV) Tryz.underlying24 rows_sizeOf rows_zero rfl (by decide) (by as_aux_lemma => kernel_rfl) (by decide) (by decide) (rows_size _) rfl (by as_aux_lemma => kernel_rfl) rfl (by as_aux_lemma => kernel_rfl) (fun a w => by as_aux_lemma => kernel_rfl) (by as_aux_lemma => kernel_rfl) (rows_tells _ _ (by as_aux_lemma => kernel_rfl) (by decide) w)

theorem picts_any (w : World) : Calls Tryz.prog 39 #[] w (TellsO 79 5 encR pictsT w) := by
  refine calls_of_wp Tryz.func39 rfl ?_
  exact calls_table_at 24 79 5 22 _ (pictsT.map rowV) Tryz.underlying24 rows_sizeOf rows_zero rfl (by decide) (by as_aux_lemma => kernel_rfl) (by decide) (by decide) (rows_size _) rfl (by as_aux_lemma => kernel_rfl) rfl (by as_aux_lemma => kernel_rfl) (fun a w => by as_aux_lemma => kernel_rfl) (by as_aux_lemma => kernel_rfl) (rows_tells _ _ (by as_aux_lemma => kernel_rfl) (by decide) w)

theorem conjs_any (w : World) : Calls Tryz.prog 40 #[] w (TellsO 79 5 encR conjsT w) := by
  refine calls_of_wp Tryz.func40 rfl ?_
  exact calls_table_at 24 79 5 5 _ (conjsT.map rowV) Tryz.underlying24 rows_sizeOf rows_zero rfl (by decide) (by as_aux_lemma => kernel_rfl) (by decide) (by decide) (rows_size _) rfl (by as_aux_lemma => kernel_rfl) rfl (by as_aux_lemma => kernel_rfl) (fun a w => by as_aux_lemma => kernel_rfl) (by as_aux_lemma => kernel_rfl) (rows_tells _ _ (by as_aux_lemma => kernel_rfl) (by decide) w)

theorem wides_any (w : World) : Calls Tryz.prog 41 #[] w (TellsO 79 5 encR widesT w) := by
  refine calls_of_wp Tryz.func41 rfl ?_
  exact calls_table_at 24 79 5 21 _ (widesT.map rowV) Tryz.underlying24 rows_sizeOf rows_zero rfl (by decide) (by as_aux_lemma => kernel_rfl) (by decide) (by decide) (rows_size _) rfl (by as_aux_lemma => kernel_rfl) rfl (by as_aux_lemma => kernel_rfl) (fun a w => by as_aux_lemma => kernel_rfl) (by as_aux_lemma => kernel_rfl) (rows_tells _ _ (by as_aux_lemma => kernel_rfl) (by decide) w)

theorem letters_any (w : World) : Calls Tryz.prog 42 #[] w (TellsO 79 5 encR lettersT w) := by
  refine calls_of_wp Tryz.func42 rfl ?_
  exact calls_table_at 24 79 5 34 _ (lettersT.map rowV) Tryz.underlying24 rows_sizeOf rows_zero rfl (by decide) (by as_aux_lemma => kernel_rfl) (by decide) (by decide) (rows_size _) rfl (by as_aux_lemma => kernel_rfl) rfl (by as_aux_lemma => kernel_rfl) (fun a w => by as_aux_lemma => kernel_rfl) (by as_aux_lemma => kernel_rfl) (rows_tells _ _ (by as_aux_lemma => kernel_rfl) (by decide) w)

end Go.Proofs.YtggapcfjcdafpaaGreat.RW

namespace Go.Proofs.YtggapcfjcdafpaaGreat.RW
open Go.RowKit
set_option linter.unusedVariables false
set_option linter.unusedSimpArgs false
set_option maxRecDepth 100000

theorem row_elt : Elt Tryz.prog 24 79 5 40 := elt_of Tryz.underlying24 (z := .agg #[.int .i64 0, .int .i64 0, .int .i64 0, .int .i64 0, .int .i64 0]) (by kernel_rfl) rfl (by decide)
theorem own_cells {α : Type} {enc : α → List Value} {X : World} {base n c k : Nat} {E : TypeId} {A : Option Addr} {L : List α} (h : X.ownsRow base E k (.slice A n c) n (flatL enc L)) (hn : 0 < n) :
    ∃ g, A = some ⟨g, 0, none⟩ ∧ base ≤ g ∧ ∀ (j : Nat) (u : Value), (flatL enc L)[j]? = some u → X.cell? ⟨g, 0 + j, none⟩ = some u := by
  obtain ⟨g, cs, rfl, hg, hB, _, _, _, hc⟩ := own_blk h hn
  exact ⟨g, rfl, hg, fun j u hu => by rw [hB.2.1, Nat.zero_add]; exact hc j u hu⟩
theorem encR_one (L : List Row) : ∀ u ∈ flatL encR L, u.oneCell' = true := by
  intro u hu
  obtain ⟨x, _, hx⟩ := List.mem_flatMap.1 hu
  simp [encR] at hx
  rcases hx with rfl | rfl | rfl | rfl | rfl <;> rfl
/-- The table so far, in a row of the call's own. -/
def TabI (w : World) (A : Option Addr) (n c : Nat) (L : List Row) (X : World) : Prop := Grows w 79 5 encR A n c L X

set_option maxHeartbeats 4000000 in
theorem rows_any (w : World) : Calls Tryz.prog 13 #[] w (TellsO 79 5 encR rowsT w) := by
  go_enter Tryz.func13, Tryz.ntmps13
  go_wp2_with fail
  refine (classes_any w).mono ?_
  rintro e y1 ⟨A, n, c, rfl, ho, hb⟩
  obtain rfl : 82 = n := by have := own_count encR_len (by decide) ho; rw [show classesT.length = 82 from by as_aux_lemma => kernel_rfl] at this; exact this
  obtain ⟨g, rfl, hg, hc⟩ := own_cells ho (by decide)
  have G := Lib.hid (show Grows w 79 5 encR none 0 0 ([] : List Row) y1 from (Grows.start w _ _).later hb)
  have C := Lib.hid hc
  clear ho hc hb hg
  go_wp2_with (at_builtin; refine wpList_catN (n := 0) (m := 82) (ys := flatL encR classesT) row_elt G.out.own G.out.below.size rfl rfl rfl rfl (by rw [flatL_len encR_len, show classesT.length = 82 from by as_aux_lemma => kernel_rfl]) C.out (encR_one _) (by unfold maxLen; decide) (by decide) ?_; intro A1 c1 x1 hp; have G1 := Lib.hid (G.out.pushM (m := 82) (M := classesT) (Below.refl _ _) rfl hp); clear hp G C)
  rw [List.nil_append] at G1
  go_wp2_with fail
  refine (pairs_any x1).mono ?_
  rintro e y2 ⟨A, n, c, rfl, ho, hb⟩
  obtain rfl : 178 = n := by have := own_count encR_len (by decide) ho; rw [show pairsT.length = 178 from by as_aux_lemma => kernel_rfl] at this; exact this
  obtain ⟨g, rfl, hg, hc⟩ := own_cells ho (by decide)
  have G := Lib.hid (G1.out.later hb)
  have C := Lib.hid hc
  clear ho hc hb hg
  clear G1
  go_wp2_with (at_builtin; refine wpList_catN (n := 82) (m := 178) (ys := flatL encR pairsT) row_elt G.out.own G.out.below.size rfl rfl rfl rfl (by rw [flatL_len encR_len, show pairsT.length = 178 from by as_aux_lemma => kernel_rfl]) C.out (encR_one _) (by unfold maxLen; decide) (by decide) ?_; intro A2 c2 x2 hp; have G2 := Lib.hid (G.out.pushM (m := 178) (M := pairsT) (Below.refl _ _) rfl hp); clear hp G C)
  go_wp2_with fail
  refine (outs_any x2).mono ?_
  rintro e y3 ⟨A, n, c, rfl, ho, hb⟩
  obtain rfl : 8 = n := by have := own_count encR_len (by decide) ho; rw [show outsT.length = 8 from by as_aux_lemma => kernel_rfl] at this; exact this
  obtain ⟨g, rfl, hg, hc⟩ := own_cells ho (by decide)
  have G := Lib.hid (G2.out.later hb)
  have C := Lib.hid hc
  clear ho hc hb hg
  clear G2
  go_wp2_with (at_builtin; refine wpList_catN (n := 260) (m := 8) (ys := flatL encR outsT) row_elt G.out.own G.out.below.size rfl rfl rfl rfl (by rw [flatL_len encR_len, show outsT.length = 8 from by as_aux_lemma => kernel_rfl]) C.out (encR_one _) (by unfold maxLen; decide) (by decide) ?_; intro A3 c3 x3 hp; have G3 := Lib.hid (G.out.pushM (m := 8) (M := outsT) (Below.refl _ _) rfl hp); clear hp G C)
  go_wp2_with fail
  refine (breaks_any x3).mono ?_
  rintro e y4 ⟨A, n, c, rfl, ho, hb⟩
  obtain rfl : 69 = n := by have := own_count encR_len (by decide) ho; rw [show breaksT.length = 69 from by as_aux_lemma => kernel_rfl] at this; exact this
  obtain ⟨g, rfl, hg, hc⟩ := own_cells ho (by decide)
  have G := Lib.hid (G3.out.later hb)
  have C := Lib.hid hc
  clear ho hc hb hg
  clear G3
  go_wp2_with (at_builtin; refine wpList_catN (n := 268) (m := 69) (ys := flatL encR breaksT) row_elt G.out.own G.out.below.size rfl rfl rfl rfl (by rw [flatL_len encR_len, show breaksT.length = 69 from by as_aux_lemma => kernel_rfl]) C.out (encR_one _) (by unfold maxLen; decide) (by decide) ?_; intro A4 c4 x4 hp; have G4 := Lib.hid (G.out.pushM (m := 69) (M := breaksT) (Below.refl _ _) rfl hp); clear hp G C)
  go_wp2_with fail
  refine (picts_any x4).mono ?_
  rintro e y5 ⟨A, n, c, rfl, ho, hb⟩
  obtain rfl : 22 = n := by have := own_count encR_len (by decide) ho; rw [show pictsT.length = 22 from by as_aux_lemma => kernel_rfl] at this; exact this
  obtain ⟨g, rfl, hg, hc⟩ := own_cells ho (by decide)
  have G := Lib.hid (G4.out.later hb)
  have C := Lib.hid hc
  clear ho hc hb hg
  clear G4
  go_wp2_with (at_builtin; refine wpList_catN (n := 337) (m := 22) (ys := flatL encR pictsT) row_elt G.out.own G.out.below.size rfl rfl rfl rfl (by rw [flatL_len encR_len, show pictsT.length = 22 from by as_aux_lemma => kernel_rfl]) C.out (encR_one _) (by unfold maxLen; decide) (by decide) ?_; intro A5 c5 x5 hp; have G5 := Lib.hid (G.out.pushM (m := 22) (M := pictsT) (Below.refl _ _) rfl hp); clear hp G C)
  go_wp2_with fail
  refine (conjs_any x5).mono ?_
  rintro e y6 ⟨A, n, c, rfl, ho, hb⟩
  obtain rfl : 5 = n := by have := own_count encR_len (by decide) ho; rw [show conjsT.length = 5 from by as_aux_lemma => kernel_rfl] at this; exact this
  obtain ⟨g, rfl, hg, hc⟩ := own_cells ho (by decide)
  have G := Lib.hid (G5.out.later hb)
  have C := Lib.hid hc
  clear ho hc hb hg
  clear G5
  go_wp2_with (at_builtin; refine wpList_catN (n := 359) (m := 5) (ys := flatL encR conjsT) row_elt G.out.own G.out.below.size rfl rfl rfl rfl (by rw [flatL_len encR_len, show conjsT.length = 5 from by as_aux_lemma => kernel_rfl]) C.out (encR_one _) (by unfold maxLen; decide) (by decide) ?_; intro A6 c6 x6 hp; have G6 := Lib.hid (G.out.pushM (m := 5) (M := conjsT) (Below.refl _ _) rfl hp); clear hp G C)
  go_wp2_with fail
  refine (wides_any x6).mono ?_
  rintro e y7 ⟨A, n, c, rfl, ho, hb⟩
  obtain rfl : 21 = n := by have := own_count encR_len (by decide) ho; rw [show widesT.length = 21 from by as_aux_lemma => kernel_rfl] at this; exact this
  obtain ⟨g, rfl, hg, hc⟩ := own_cells ho (by decide)
  have G := Lib.hid (G6.out.later hb)
  have C := Lib.hid hc
  clear ho hc hb hg
  clear G6
  go_wp2_with (at_builtin; refine wpList_catN (n := 364) (m := 21) (ys := flatL encR widesT) row_elt G.out.own G.out.below.size rfl rfl rfl rfl (by rw [flatL_len encR_len, show widesT.length = 21 from by as_aux_lemma => kernel_rfl]) C.out (encR_one _) (by unfold maxLen; decide) (by decide) ?_; intro A7 c7 x7 hp; have G7 := Lib.hid (G.out.pushM (m := 21) (M := widesT) (Below.refl _ _) rfl hp); clear hp G C)
  go_wp2_with fail
  refine (letters_any x7).mono ?_
  rintro e y8 ⟨A, n, c, rfl, ho, hb⟩
  obtain rfl : 34 = n := by have := own_count encR_len (by decide) ho; rw [show lettersT.length = 34 from by as_aux_lemma => kernel_rfl] at this; exact this
  obtain ⟨g, rfl, hg, hc⟩ := own_cells ho (by decide)
  have G := Lib.hid (G7.out.later hb)
  have C := Lib.hid hc
  clear ho hc hb hg
  clear G7
  go_wp2_with (at_builtin; refine wpList_catN (n := 385) (m := 34) (ys := flatL encR lettersT) row_elt G.out.own G.out.below.size rfl rfl rfl rfl (by rw [flatL_len encR_len, show lettersT.length = 34 from by as_aux_lemma => kernel_rfl]) C.out (encR_one _) (by unfold maxLen; decide) (by decide) ?_; intro A8 c8 x8 hp; have G8 := Lib.hid (G.out.pushM (m := 34) (M := lettersT) (Below.refl _ _) rfl hp); clear hp G C)
  go_ret
  have h := G8.out.tells
  exact h
end Go.Proofs.YtggapcfjcdafpaaGreat.RW

namespace Go.Proofs.YtggapcfjcdafpaaGreat
open Go.RowKit
set_option linter.unusedVariables false
set_option linter.unusedSimpArgs false

/-- What is asked of the given table. -/
structure Given (T : List RW.Row) : Prop where
  len : T.length ≤ 500
  wf : ∀ x ∈ T, (Lit.int .i64 x.a).wf = true
  one : oneB T = true
  cls : at0 0 (vget 1 T) 769 = 230
  pair : at0 (0, 0) (pget2 T) 233 = (101, 769)
  comp : RW.compR T 101 769 = (233, true)
  out : outT T 8491 = true
  brk : breakB (vget 4 T) 44032 = 12
set_option maxRecDepth 100000 in
theorem given : Given RW.rowsT := by
  have hw : (RW.rowsT.all fun x => (Lit.int .i64 x.a).wf) = true := by decide +kernel
  exact ⟨by decide +kernel, fun x hx => List.all_eq_true.1 hw x hx, by decide +kernel, by decide +kernel, by decide +kernel, by decide +kernel, by decide +kernel, by decide +kernel⟩
theorem rows_li (w : World) : ∃ T, Given T ∧ RW.rowsT = T ∧ Calls Tryz.prog 13 #[] w fun e w' => ∃ A c, e = .returned (.slice A T.length c) ∧ Li 5 RW.encR w' (fun b => w.heap.size ≤ b) A T ∧ T.length ≤ c ∧ c ≤ 9223372036854775807 ∧ Below w.heap.size w w' := by
  refine ⟨_, given, rfl, (RW.rows_any w).mono ?_⟩
  rintro e w' ⟨A, n, c, rfl, ho, hb⟩
  have hn := own_count RW.encR_len (by decide) ho
  have hl := (LiV.own RW.encR_len (by decide) ho).parts
  subst hn
  exact ⟨A, c, rfl, hl.2.1, hl.2.2.2.1, hl.2.2.2.2, hb⟩

/-- The tables lie there. -/
def Tabs (T : List RW.Row) (tp : Nat) (W : World) : Prop := ∃ lo hi, hi ≤ W.heap.size ∧ Ucd lo hi T tp W
theorem Tabs.later {T : List RW.Row} {tp : Nat} {W W' : World} (h : Tabs T tp W) (hb : Below W.heap.size W W') : Tabs T tp W' := by
  obtain ⟨lo, hi, h1, h2⟩ := h
  exact ⟨lo, hi, Nat.le_trans h1 hb.size, h2.later (hb.mono h1)⟩
section
variable {T : List RW.Row} {tp : Nat} {W : World}
theorem tclass (h : Tabs T tp W) (r : Int) (r0 : -2147483648 ≤ r) (r1 : r ≤ 2147483647) :
    Calls Tryz.prog 104 #[.pointer (some ⟨tp, 0, none⟩), .int .i32 r] W (fun e w' => e = .returned (.int .i64 (at0 0 (vget 1 T) r)) ∧ Below W.heap.size W w') := by
  obtain ⟨lo, hi, _, h⟩ := h
  exact uclass h r r0 r1
theorem tpair (h : Tabs T tp W) (r : Int) (r0 : -2147483648 ≤ r) (r1 : r ≤ 2147483647) :
    Calls Tryz.prog 103 #[.pointer (some ⟨tp, 0, none⟩), .int .i32 r] W (fun e w' => e = .returned (.tuple #[.int .i32 (at0 (0, 0) (pget2 T) r).1, .int .i32 (at0 (0, 0) (pget2 T) r).2, .bool (at0 (0, 0) (pget2 T) r != (0, 0))]) ∧ Below W.heap.size W w') := by
  obtain ⟨lo, hi, _, h⟩ := h
  exact upair h r r0 r1
theorem tout (h : Tabs T tp W) (r : Int) (r0 : -2147483648 ≤ r) (r1 : r ≤ 2147483647) :
    Calls Tryz.prog 78 #[.pointer (some ⟨tp, 0, none⟩), .int .i32 r] W (fun e w' => e = .returned (.bool (outT T r)) ∧ Below W.heap.size W w') := by
  obtain ⟨lo, hi, _, h⟩ := h
  exact uout h r r0 r1
end
/-- What the maps say. -/
theorem Tabs.said {T : List RW.Row} {tp : Nat} {W : World} (h : Tabs T tp W) : ∃ l c b6 b7 n6 n7, CompS T l c ∧ W.cell? ⟨tp, 6, none⟩ = some (.map (some b6)) ∧ Mp W b6 n6 l ∧ W.cell? ⟨tp, 7, none⟩ = some (.map (some b7)) ∧ Ms W b7 n7 c := by
  obtain ⟨lo, hi, _, h⟩ := h
  obtain ⟨l, c, b6, b7, n6, n7, hc, h⟩ := h.said
  exact ⟨l, c, b6, b7, n6, n7, hc, h W (Below.refl _ _)⟩
theorem build_tabs (A : Option Addr) (c : Nat) (T : List RW.Row) (w : World) (hL : Li 5 RW.encR w (fun _ => True) A T) (hc : T.length ≤ c) (hG : Given T) :
    Calls Tryz.prog 16 #[.slice A T.length c] w fun e w' => ∃ tp, e = .returned (.pointer (some ⟨tp, 0, none⟩)) ∧ Tabs T tp w' ∧ Below w.heap.size w w' := by
  refine (ucd_any A c T w hL hc hG.len hG.wf).mono ?_
  rintro e w' ⟨tp, e1, hU, hb⟩
  exact ⟨tp, e1, ⟨_, _, Nat.le_refl _, hU⟩, hb⟩

end Go.Proofs.YtggapcfjcdafpaaGreat

namespace Go.Proofs.YtggapcfjcdafpaaGreat
open Go.RowKit
set_option linter.unusedVariables false
set_option linter.unusedSimpArgs false

set_option maxHeartbeats 4000000 in
theorem break_any {g : Int → Int} {tp t : Nat} {W : World} (k : W.cell? ⟨tp, 1, none⟩ = some (.pointer (some ⟨t, 0, none⟩))) (h : IsT g t W) (r : Int) (h0 : -2147483648 ≤ r) (h1 : r ≤ 2147483647) :
    Calls Tryz.prog 48 #[.pointer (some ⟨tp, 0, none⟩), .int .i32 r] W (fun e w' => e = .returned (.int .i64 (breakB g r)) ∧ Below W.heap.size W w') := by
  have C := Lib.hid (getT_any h r)
  clear h
  unfold breakB
  obtain ⟨y, hy⟩ : ∃ y, at0 0 g r = y := ⟨_, rfl⟩
  rw [hy] at C ⊢
  clear hy
  by_cases a : 44032 ≤ r
  · by_cases b : r ≤ 55203
    · rw [if_pos ⟨a, b⟩]
      have m1 : (r - 44032).tmod 28 = (r - 44032) % 28 := Int.tmod_eq_emod_of_nonneg (by omega)
      have m2 : IntKind.i32.wrap (r - 44032) = r - 44032 := IntWalk.i32_in _ (by omega)
      obtain ⟨q, hq⟩ : ∃ q, (r - 44032).tmod 28 = q := ⟨_, rfl⟩
      have q0 : 0 ≤ q ∧ q < 28 := by omega
      have m3 : IntKind.i32.wrap q = q := IntWalk.i32_in _ (by omega)
      rw [hq]
      clear m1 C
      by_cases c : q = 0
      · subst c
        rw [if_pos rfl]
        go_enter Tryz.func48, Tryz.ntmps48
        go_wp2
        go_ret
        exact ⟨rfl, Below.refl _ _⟩
      · rw [if_neg c]
        have c' : (q == 0) = false := by simpa using c
        go_enter Tryz.func48, Tryz.ntmps48
        go_wp2
        go_ret
        exact ⟨rfl, Below.refl _ _⟩
    · rw [if_neg (fun h => b h.2)]
      go_enter Tryz.func48, Tryz.ntmps48
      go_wp2_with fail
      refine C.out.mono ?_
      rintro e w1 ⟨rfl, hb⟩
      go_wp2
      go_ret
      exact ⟨rfl, hb⟩
  · rw [if_neg (fun h => a h.1)]
    go_enter Tryz.func48, Tryz.ntmps48
    go_wp2_with fail
    refine C.out.mono ?_
    rintro e w1 ⟨rfl, hb⟩
    go_wp2
    go_ret
    exact ⟨rfl, hb⟩
end Go.Proofs.YtggapcfjcdafpaaGreat

namespace Go.Proofs.YtggapcfjcdafpaaGreat
open Go.RowKit
set_option linter.unusedVariables false
set_option linter.unusedSimpArgs false

theorem ubreak {lo hi : Nat} {L : List RW.Row} {tp : Nat} {W : World} (h : Ucd lo hi L tp W) (r : Int) (r0 : -2147483648 ≤ r) (r1 : r ≤ 2147483647) :
    Calls Tryz.prog 48 #[.pointer (some ⟨tp, 0, none⟩), .int .i32 r] W (fun e w' => e = .returned (.int .i64 (breakB (vget 4 L) r)) ∧ Below W.heap.size W w') := by
  obtain ⟨t0, t1, t2, t3, t4, t5, b6, b7, h⟩ := h
  obtain ⟨g1, e1, f1⟩ := h.h1
  have := break_any (h.blk.2.1 1) e1.is r r0 r1
  unfold breakB at this ⊢
  rwa [at0_congr f1 r] at this
end Go.Proofs.YtggapcfjcdafpaaGreat

namespace Go.Proofs.YtggapcfjcdafpaaGreat
open Go.RowKit
set_option linter.unusedVariables false
set_option linter.unusedSimpArgs false

theorem tbreak {T : List RW.Row} {tp : Nat} {W : World} (h : Tabs T tp W) (r : Int) (r0 : -2147483648 ≤ r) (r1 : r ≤ 2147483647) :
    Calls Tryz.prog 48 #[.pointer (some ⟨tp, 0, none⟩), .int .i32 r] W (fun e w' => e = .returned (.int .i64 (breakB (vget 4 T) r)) ∧ Below W.heap.size W w') := by
  obtain ⟨lo, hi, _, h⟩ := h
  exact ubreak h r r0 r1
end Go.Proofs.YtggapcfjcdafpaaGreat
