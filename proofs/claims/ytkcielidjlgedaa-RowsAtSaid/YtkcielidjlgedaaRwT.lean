/- rows: what Find tells, and what the spans say. -/
import Derived.Test.YtkcielidjlgedaaRwE
import Derived.Test.YtkcielidjlgedaaRwM
namespace Go.Proofs.Ytkcielidjlgedaa
open Go.RowKit
set_option linter.unusedVariables false
set_option linter.unusedSimpArgs false

theorem val_at (S : List Span) (r : Int) : val S r = (atP S r).map fun s => (s.a, s.b) := rfl
theorem rval_some {kind r : Int} {l : List Row} {x : Row} (h : l.find? (Row.has kind r) = some x) : ∃ k, l[k]? = some x ∧ fIdx l kind r = k ∧ k < l.length := by
  obtain ⟨h1, k, hk, e, hn⟩ := List.find?_eq_some_iff_getElem.1 h
  have hx : l[k]? = some x := by rw [List.getElem?_eq_getElem hk, e]
  refine ⟨k, hx, fIdx_at hx h1 fun j y hj hy => ?_, hk⟩
  have := hn j hj
  obtain ⟨hj', e'⟩ := List.getElem?_eq_some_iff.1 hy
  rw [e'] at this
  simpa using this
theorem rval_none {kind r : Int} {l : List Row} (h : l.find? (Row.has kind r) = none) : fIdx l kind r = l.length :=
  fIdx_no fun j y _ hy => by
    have := List.find?_eq_none.1 h y (List.mem_of_getElem? hy)
    simpa using this
/-- The row and the span of a scalar. -/
structure Found (kind : Int) (l : List Row) (S : List Span) (r : Int) (k : Nat) (x : Row) (s : Span) : Prop where
  row : l[k]? = some x
  idx : findV l kind r = k
  span : atP S r = some s
  lo : s.f ≤ r
  hi : r ≤ s.t
  a : s.a = x.a
  b : s.b = x.b
theorem found {kind : Int} {l : List Row} {S : List Span} (h : Good kind l S) (r : Int) : (∃ k x s, Found kind l S r k x s) ∨ (findV l kind r = -1 ∧ atP S r = none) := by
  by_cases hr : 0 ≤ r ∧ r ≤ MS
  · have hs := h.says r hr.1 hr.2
    rw [val_at, rval] at hs
    cases hf : l.find? (Row.has kind r) with
    | none =>
      rw [hf] at hs
      refine .inr ⟨by rw [findV, rval_none hf, if_neg (by omega)], ?_⟩
      cases ha : atP S r with
      | none => rfl
      | some s => rw [ha] at hs; cases hs
    | some x =>
      rw [hf] at hs
      obtain ⟨k, h1, h2, h3⟩ := rval_some hf
      cases ha : atP S r with
      | none => rw [ha] at hs; cases hs
      | some s =>
        rw [ha] at hs
        injection hs with hs
        injection hs with e1 e2
        have hh := List.find?_some ha
        simp [Span.has] at hh
        exact .inl ⟨k, x, s, h1, by rw [findV, h2, if_pos ⟨hr.1, hr.2, h3⟩], ha, hh.1, hh.2, e1, e2⟩
  · refine .inr ⟨by rw [findV, if_neg (by omega)], ?_⟩
    have := val_out h r hr
    rw [val_at] at this
    cases ha : atP S r with
    | none => rfl
    | some s => rw [ha] at this; cases this
theorem found_edge {kind : Int} {l : List Row} {S : List Span} {E : List Int} (h : Good kind l S) (hE : EdgeInv kind l E) {i : Nat} (hi : i + 1 < E.length) :
    0 ≤ E.getD i 0 ∧ E.getD i 0 < E.getD (i + 1) 0 ∧ E.getD (i + 1) 0 ≤ 1114112 ∧
    ((∃ k x s t, Found kind l S (E.getD i 0) k x s ∧ Found kind l S (E.getD (i + 1) 0 - 1) k x t) ∨ (findV l kind (E.getD i 0) = -1 ∧ atP S (E.getD i 0) = none ∧ atP S (E.getD (i + 1) 0 - 1) = none)) := by
  have hlt := cAt_lt hE.lt (show i < i + 1 by omega) hi
  have m0 := hE.bd _ (cAt_mem (show i < E.length by omega))
  have m1 := hE.bd _ (cAt_mem hi)
  have e0 : cAt E i = E.getD i 0 := rfl
  have e1 : cAt E (i + 1) = E.getD (i + 1) 0 := rfl
  rw [← e0, ← e1]
  refine ⟨m0.1, hlt, m1.2, ?_⟩
  have hs : l.find? (Row.has kind (cAt E (i + 1) - 1)) = l.find? (Row.has kind (cAt E i)) := by
    have : ∀ M : List Row, (∀ x ∈ M, x ∈ l) → M.find? (Row.has kind (cAt E (i + 1) - 1)) = M.find? (Row.has kind (cAt E i)) := by
      intro M
      induction M with
      | nil => intro _; rfl
      | cons x M ih =>
        intro hM
        have h1 := edges_same hE hi (r := cAt E (i + 1) - 1) (by omega) (by omega) (hM x (by simp))
        rw [List.find?_cons, List.find?_cons, h1, ih fun y hy => hM y (by simp [hy])]
    exact this l fun _ h => h
  rcases found h (cAt E i) with ⟨k, x, s, hf⟩ | ⟨h1, h2⟩
  · rcases found h (cAt E (i + 1) - 1) with ⟨k', x', t, ht⟩ | ⟨h3, h4⟩
    · have hfi : fIdx l kind (cAt E (i + 1) - 1) = fIdx l kind (cAt E i) := by
        cases hq : l.find? (Row.has kind (cAt E i)) with
        | none => rw [rval_none hq, rval_none (hs.trans hq)]
        | some y =>
          obtain ⟨k1, a1, a2, _⟩ := rval_some hq
          have b0 := hs.trans hq
          obtain ⟨c1, k2, c2, c3, c4⟩ := List.find?_eq_some_iff_getElem.1 b0
          obtain ⟨d1, k3, d2, d3, d4⟩ := List.find?_eq_some_iff_getElem.1 hq
          have q2 : fIdx l kind (cAt E (i + 1) - 1) = k2 := fIdx_at (by rw [List.getElem?_eq_getElem c2, c3]) c1 fun j z hj hz => by
            obtain ⟨u, v⟩ := List.getElem?_eq_some_iff.1 hz
            have := c4 j hj
            rw [v] at this
            simpa using this
          have q3 : fIdx l kind (cAt E i) = k3 := fIdx_at (by rw [List.getElem?_eq_getElem d2, d3]) d1 fun j z hj hz => by
            obtain ⟨u, v⟩ := List.getElem?_eq_some_iff.1 hz
            have := d4 j hj
            rw [v] at this
            simpa using this
          have hall : ∀ j (hj : j < l.length), Row.has kind (cAt E (i + 1) - 1) l[j] = Row.has kind (cAt E i) l[j] := fun j hj => edges_same hE hi (r := cAt E (i + 1) - 1) (by omega) (by omega) (List.getElem_mem hj)
          rw [q2, q3]
          rcases Nat.lt_trichotomy k2 k3 with hk | hk | hk
          · have := d4 k2 hk; rw [← hall k2 c2, c3, c1] at this; simp at this
          · exact hk
          · have := c4 k3 hk; rw [hall k3 d2, d3, d1] at this; simp at this
      have hv : findV l kind (cAt E (i + 1) - 1) = findV l kind (cAt E i) := by
        unfold findV MS
        rw [hfi]
        by_cases hq : fIdx l kind (cAt E i) < l.length
        · rw [if_pos ⟨by omega, by omega, hq⟩, if_pos ⟨by omega, by omega, hq⟩]
        · rw [if_neg fun h => hq h.2.2, if_neg fun h => hq h.2.2]
      have hkk : k' = k := by
        have a1 := ht.idx
        have a2 := hf.idx
        omega
      subst hkk
      obtain rfl : x' = x := by
        have a1 := ht.row
        rw [hf.row] at a1
        injection a1 with a1
        exact a1.symm
      exact .inl ⟨_, _, s, t, hf, ht⟩
    · exfalso
      have a1 := h.says (cAt E i) (by omega) (by unfold MS; omega)
      have a2 := h.says (cAt E (i + 1) - 1) (by omega) (by unfold MS; omega)
      rw [rval, hs, ← rval, ← a1, val_at, val_at, h4, hf.span] at a2
      cases a2
  · refine .inr ⟨h1, h2, ?_⟩
    have a1 := h.says (cAt E i) (by omega) (by unfold MS; omega)
    have a2 := h.says (cAt E (i + 1) - 1) (by omega) (by unfold MS; omega)
    rw [rval, hs, ← rval, ← a1, val_at, val_at, h2] at a2
    cases ha : atP S (cAt E (i + 1) - 1) with
    | none => rfl
    | some s => rw [ha] at a2; cases a2
end Go.Proofs.Ytkcielidjlgedaa
