/- A literal of many structs: a row of builds of constants, and the slice that is made of them. -/
import Derived.Test.YtkcielidjlgedaaLi
namespace Go.Proofs.Ytkcielidjlgedaa
open Go.RowKit
set_option linter.unusedVariables false
set_option linter.unusedSimpArgs false

theorem wpList_one {P : Program} {ops : Array Oper} {Q : Exit → Act → World → Prop} {o : Oper} {rest : List Oper} {a : Act} {w w' : World} {v : Value} (hg : o.guard = none) (hr : (execOp a.eval o).run P w = .ok (.value v) w') (h : wpList P ops Q rest (a.put o.dst v) w') : wpList P ops Q (o :: rest) a w := by
  refine wpList_plain hg fun K hK => ?_
  unfold Oper.wp
  rw [hr, Oper.upon_value]
  exact hK _ _ h

/-- What each of the builds gives, whatever the frame. -/
def Builds (P : Program) (bs : List Oper) (vs : List (Value × Nat)) : Prop :=
  ∀ (a : Act) (w : World), bs.map (fun o => (o.guard, o.dst, (execOp a.eval o).run P w)) = vs.map fun x => (none, some x.2, .ok (.value x.1) w)

theorem wpList_builds {P : Program} {ops : Array Oper} {Q : Exit → Act → World → Prop} {rest : List Oper} {w : World} {m : Nat} : ∀ (bs : List Oper) (vs : List Value) (s : Nat) (a : Act), Builds P bs (vs.zipIdx s) → a.tmps.size = m → s + vs.length ≤ m →
    (∀ a' : Act, a'.defers = a.defers → a'.tmps.size = m → (∀ j, j < s → a'.tmps.getD j undef = a.tmps.getD j undef) → (∀ (j : Nat) (v : Value), vs[j]? = some v → a'.tmps.getD (s + j) undef = v) → wpList P ops Q rest a' w) → wpList P ops Q (bs ++ rest) a w
  | [], [], s, a, _, hm, _, h => h a rfl hm (fun _ _ => rfl) (fun j v hv => by simp at hv)
  | [], v :: vs, s, a, hb, _, _, h => by have := hb a w; simp at this
  | o :: bs, [], s, a, hb, _, _, h => by have := hb a w; simp at this
  | o :: bs, v :: vs, s, a, hb, hm, hl, h => by
    have h0 : ∀ (a : Act) (w : World), o.guard = none ∧ o.dst = some s ∧ (execOp a.eval o).run P w = .ok (.value v) w := by
      intro a w
      have := hb a w
      simp only [List.zipIdx_cons, List.map_cons, List.cons.injEq, Prod.mk.injEq] at this
      exact ⟨this.1.1, this.1.2.1, this.1.2.2⟩
    have hb' : Builds P bs (vs.zipIdx (s + 1)) := by
      intro a w
      have := hb a w
      simp only [List.zipIdx_cons, List.map_cons, List.cons.injEq] at this
      exact this.2
    obtain ⟨g1, g2, g3⟩ := h0 a w
    refine wpList_one g1 g3 ?_
    simp at hl
    refine wpList_builds bs vs (s + 1) (a.put o.dst v) hb' (by rw [g2]; simpa [Act.put] using hm) (by omega) fun a' e1 e2 e3 e4 => h a' (by rw [e1, g2]; rfl) e2 (fun j hj => ?_) (fun j u hu => ?_)
    · rw [e3 j (by omega), g2]
      simp only [Act.put, Array.getD_eq_getD_getElem?]
      rw [Array.getElem?_setIfInBounds_ne (by omega)]
    · cases j with
      | zero =>
        simp at hu
        subst hu
        rw [Nat.add_zero, e3 s (by omega), g2]
        simp only [Act.put, Array.getD_eq_getD_getElem?]
        rw [Array.getElem?_setIfInBounds_self, if_pos (by omega)]
        rfl
      | succ j =>
        have := e4 j u (by simpa using hu)
        rwa [show s + (j + 1) = s + 1 + j by omega]

/-- Parts laid one behind the other fill the row. -/
theorem put_cells (off : Nat) : ∀ (l : List Value) (j : Nat) (cs : Array Value), off + j + l.length ≤ cs.size → ((l.zipIdx j).foldl (fun cs (x : Value × Nat) => cs.setIfInBounds (off + x.2) x.1) cs).toList = cs.toList.take (off + j) ++ l ++ cs.toList.drop (off + j + l.length)
  | [], j, cs, h => by simp
  | v :: l, j, cs, h => by
    simp at h
    rw [List.zipIdx_cons, List.foldl_cons, put_cells off l (j + 1) _ (by simp; omega)]
    have hlt : off + j < cs.toList.length := by simp; omega
    rw [Array.toList_setIfInBounds]
    rw [show off + (j + 1) = off + j + 1 by omega, List.take_succ_eq_append_getElem (by simpa using hlt), List.take_set_of_le (by omega)]
    have e : (cs.toList.set (off + j) v)[off + j]'(by simpa using hlt) = v := by simp
    have e2 : (cs.toList.set (off + j) v).drop (off + j + 1 + l.length) = cs.toList.drop (off + j + (l.length + 1)) := by
      rw [List.drop_set_of_lt (by omega)]
      congr 1
      omega
    rw [e, e2]
    simp
theorem fill_all {k : Nat} : ∀ (vs : List Value) (s : Nat) (cs : Array Value), (∀ v ∈ vs, v.cells.size = k) → s * k + vs.length * k ≤ cs.size →
    Instr.fill (fun i => some (i * k, k)) cs ((vs.zipIdx s).map fun x => (x.2, x.1)) = some (cs.toList.take (s * k) ++ (vs.flatMap fun v => v.cells.toList) ++ cs.toList.drop (s * k + vs.length * k)).toArray
  | [], s, cs, _, h => by simp [Instr.fill]
  | v :: vs, s, cs, hv, h => by
    have h0 := hv v (by simp)
    have hl : (v :: vs).length * k = k + vs.length * k := by simp [Nat.add_mul]; omega
    rw [hl] at h
    simp only [List.zipIdx_cons, List.map_cons, Instr.fill]
    rw [if_neg (by simp [h0]; omega)]
    have hp := put_cells (s * k) v.cells.toList 0 cs (by simp [h0]; omega)
    simp only [Nat.add_zero, Array.length_toList, h0] at hp
    have hz : v.cells.zipIdx.foldl (fun cs (x : Value × Nat) => cs.setIfInBounds (s * k + x.2) x.1) cs = (v.cells.toList.zipIdx.foldl (fun cs (x : Value × Nat) => cs.setIfInBounds (s * k + x.2) x.1) cs) := by
      rw [← Array.foldl_toList]
      simp
    have e1 : (s + 1) * k = s * k + k := by rw [Nat.add_mul, Nat.one_mul]
    have hsz : (v.cells.toList.zipIdx.foldl (fun cs (x : Value × Nat) => cs.setIfInBounds (s * k + x.2) x.1) cs).size = cs.size := by
      have := congrArg List.length hp
      simp only [Array.length_toList, List.length_append, List.length_take, List.length_drop, h0] at this
      omega
    have := fill_all vs (s + 1) (v.cells.toList.zipIdx.foldl (fun cs (x : Value × Nat) => cs.setIfInBounds (s * k + x.2) x.1) cs) (fun u hu => hv u (by simp [hu])) (by rw [hsz, e1]; omega)
    rw [← hz] at this
    refine (show _ = _ from this).trans ?_
    rw [hz, hp, e1, hl]
    congr 1
    simp only [List.flatMap_cons, List.append_assoc]
    have hk : (cs.toList.take (s * k) ++ v.cells.toList).length = s * k + k := by simp [h0]; omega
    have e2 : List.drop (s * k + k + vs.length * k) (cs.toList.take (s * k) ++ v.cells.toList ++ cs.toList.drop (s * k + k)) = cs.toList.drop (s * k + (k + vs.length * k)) := by
      rw [List.drop_append, List.drop_eq_nil_of_le (by omega), hk, List.nil_append, List.drop_drop]
      congr 1
      omega
    have e3 : List.take (s * k + k) (cs.toList.take (s * k) ++ (v.cells.toList ++ cs.toList.drop (s * k + k))) = cs.toList.take (s * k) ++ v.cells.toList := by
      rw [← List.append_assoc, List.take_append_of_le_length (by omega), List.take_of_length_le (by omega)]
    rw [List.append_assoc] at e2
    rw [e2, e3]
    simp

theorem buildSlice_all {P : Program} {T E : TypeId} {k N : Nat} {z : Value} {vs : List Value} {w : World} (hT : P.underlying T = some (.slice E)) (hs : ∀ w, (sizeOf E).run P w = .ok k w) (hz : ∀ w, (zeroValue E).run P w = .ok z w) (hzk : z.cells.size = k) (hk : 0 < k) (hN : vs.length = N) (h0 : 0 < N) (hb : N * k ≤ 16777216) (hv : ∀ v ∈ vs, v.cells.size = k) :
    (Instr.buildSlice T N ((vs.zipIdx).map fun x => (x.2, x.1)).toArray).run P w = .ok (.slice (some ⟨w.heap.size, 0, none⟩) N N) (w.alloc (.cells (vs.flatMap fun v => v.cells.toList).toArray E)) := by
  have hu : ∀ w, (underlying T).run P w = .ok (.slice E) w := run_underlying hT
  have hn0 : N * k ≠ 0 := by have := Nat.mul_pos h0 hk; omega
  unfold Instr.buildSlice
  have hf := fill_all vs 0 ((Array.range (N * k)).map (z.cells[· % z.cells.size]!)) hv (by simp [hN])
  simp only [Nat.zero_mul, Nat.zero_add, hN] at hf
  rw [show List.drop (N * k) ((Array.range (N * k)).map (z.cells[· % z.cells.size]!)).toList = [] from List.drop_eq_nil_of_le (by simp)] at hf
  simp only [List.take_zero, List.nil_append, List.append_nil] at hf
  simp only [Sem.run_bind, hu, hs, hz, Result.andThen_ok]
  rw [if_neg (by omega)]
  simp only [Sem.run_bind, hz, Result.andThen_ok, if_neg hn0, Sem.run_pure, hf]
  rfl

theorem pairs_eq {vs : List Value} {s N : Nat} (a : Act) (hN : vs.length = N) (h : ∀ (j : Nat) (v : Value), vs[j]? = some v → a.tmps.getD (s + j) undef = v) :
    (((List.range N).map fun i => (i, Operand.tmp (s + i))).toArray.map fun (x : Nat × Operand) => (x.1, a.eval x.2)) = ((vs.zipIdx).map fun x => (x.2, x.1)).toArray := by
  rw [List.map_toArray]
  congr 1
  rw [List.map_map]
  apply List.ext_getElem
  · simp [hN]
  · intro i h1 h2
    simp at h1 h2
    simp only [List.getElem_map, List.getElem_range, List.getElem_zipIdx, Function.comp, Nat.zero_add]
    rw [Prod.mk.injEq]
    exact ⟨rfl, h i vs[i] (List.getElem?_eq_getElem (by omega))⟩

/-- A function that tells a literal of many structs. -/
theorem calls_table {P : Program} {fn : Func} {i j : Nat} {o0 os oa : Oper} {bs : List Oper} {R : Ending → World → Prop} {a : Act} {w : World} {T E : TypeId} {k N : Nat} {z : Value} {vs : List Value}
    (hT : P.underlying T = some (.slice E)) (hs : ∀ w, (sizeOf E).run P w = .ok k w) (hz : ∀ w, (zeroValue E).run P w = .ok z w) (hzk : z.cells.size = k) (hk : 0 < k) (hN : vs.length = N) (h0 : 0 < N) (hb : N * k ≤ 16777216) (hv : ∀ v ∈ vs, v.cells.size = k)
    (hres : fn.results = #[.tmp 0]) (ha : a.tmps.size = N + 2) (hd : a.defers = [])
    (p0 : o0.guard = none ∧ o0.dst = some 0 ∧ o0.op = .assign (.const (.slice none 0 0)))
    (pb : Builds P bs (vs.zipIdx 1)) (ps : os.guard = none ∧ os.dst = some (N + 1) ∧ os.op = .buildSlice T N ((List.range N).map fun i => (i, Operand.tmp (1 + i))).toArray) (pa : oa.guard = none ∧ oa.dst = some 0 ∧ oa.op = .assign (.tmp (N + 1)))
    (hR : R (.returned (.slice (some ⟨w.heap.size, 0, none⟩) N N)) (w.alloc (.cells (vs.flatMap fun v => v.cells.toList).toArray E))) :
    ((Code.region i [o0].toArray false).seq ((Code.region j (bs ++ [os, oa]).toArray false).seq Code.ret)).wp P (bodyPost P fn R) a w := by
  refine wp_seq (wp_region_lit (wpList_one p0.1 (v := .slice none 0 0) (w' := w) (by simp [execOp, p0.2.2, Act.eval]) (wpList_nil ?_)))
  refine wp_seq (wp_region_lit ?_)
  refine wpList_builds (m := N + 2) bs vs 1 _ pb (by rw [p0.2.1]; simpa [Act.put] using ha) (by omega) fun a' e1 e2 e3 e4 => ?_
  have hpe := pairs_eq (s := 1) a' hN e4
  refine wpList_one ps.1 (v := .slice (some ⟨w.heap.size, 0, none⟩) N N) (w' := w.alloc (.cells (vs.flatMap fun v => v.cells.toList).toArray E)) ?_ ?_
  · simp only [execOp, ps.2.2]
    rw [hpe, Sem.run_bind, buildSlice_all hT hs hz hzk hk hN h0 hb hv]
    rfl
  · refine wpList_one pa.1 (v := .slice (some ⟨w.heap.size, 0, none⟩) N N) (w' := w.alloc (.cells (vs.flatMap fun v => v.cells.toList).toArray E)) ?_ (wpList_nil (wp_ret ?_))
    · simp only [execOp, pa.2.2, Act.eval, ps.2.1, Act.put]
      rw [Array.getD_eq_getD_getElem?, Array.getElem?_setIfInBounds_self, if_pos (by omega)]
      rfl
    · refine bodyPost_ret (results_tmp hres _ _ _) ?_ ?_
      · rw [ps.2.1, pa.2.1]
        simp only [Act.put]
        rw [e1, p0.2.1]
        exact hd
      · rw [ps.2.1, pa.2.1]
        simp only [Act.put]
        rw [Array.getD_eq_getD_getElem?, Array.getElem?_setIfInBounds_self, if_pos (by simp; omega)]
        exact hR

theorem calls_table_at {P : Program} {fn : Func} {i j : Nat} {l0 l : List Oper} {R : Ending → World → Prop} {a : Act} {w : World} (T E : TypeId) (k N : Nat) (z : Value) (vs : List Value)
    (hT : P.underlying T = some (.slice E)) (hs : ∀ w, (sizeOf E).run P w = .ok k w) (hz : ∀ w, (zeroValue E).run P w = .ok z w) (hzk : z.cells.size = k) (hk : 0 < k) (hN : vs.length = N) (h0 : 0 < N) (hb : N * k ≤ 16777216) (hv : vs.all (fun v => v.cells.size == k) = true)
    (hres : fn.results = #[.tmp 0]) (ha : a.tmps.size = N + 2) (hd : a.defers = [])
    (p0 : l0.map (fun o => (o.guard, o.dst, o.op)) = [(none, some 0, .assign (.const (.slice none 0 0)))])
    (pb : Builds P (l.take N) (vs.zipIdx 1)) (ps : (l.drop N).map (fun o => (o.guard, o.dst, o.op)) = [(none, some (N + 1), .buildSlice T N ((List.range N).map fun i => (i, Operand.tmp (1 + i))).toArray), (none, some 0, .assign (.tmp (N + 1)))])
    (hR : R (.returned (.slice (some ⟨w.heap.size, 0, none⟩) N N)) (w.alloc (.cells (vs.flatMap fun v => v.cells.toList).toArray E))) :
    ((Code.region i l0.toArray false).seq ((Code.region j l.toArray false).seq Code.ret)).wp P (bodyPost P fn R) a w := by
  have hl := List.take_append_drop N l
  generalize l.take N = bs at pb hl
  generalize l.drop N = rest at ps hl
  subst hl
  rcases l0 with _ | ⟨o0, _ | ⟨o1, l0⟩⟩
  · cases p0
  · rcases rest with _ | ⟨os, _ | ⟨oa, _ | ⟨o2, rest⟩⟩⟩
    · cases ps
    · simp at ps
    · simp only [List.map_cons, List.map_nil, List.cons.injEq, Prod.mk.injEq, and_true] at p0 ps
      exact calls_table hT hs hz hzk hk hN h0 hb (fun v hv' => by have := List.all_eq_true.1 hv v hv'; simpa using this) hres ha hd p0 pb ps.1 ps.2 hR
    · simp at ps
  · simp at p0
end Go.Proofs.Ytkcielidjlgedaa
