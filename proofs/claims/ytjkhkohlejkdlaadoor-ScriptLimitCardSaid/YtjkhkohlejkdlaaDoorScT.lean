/- script: Parse: what holds at its loop's rounds. -/
import Derived.Test.YtjkhkohlejkdlaaDoorScR
import Derived.Test.YtjkhkohlejkdlaaDoorOpL
import Derived.Test.YtjkhkohlejkdlaaDoorRndQ
namespace Go.Proofs.YtjkhkohlejkdlaaDoor
open Go.RowKit
set_option linter.unusedVariables false
set_option linter.unusedSimpArgs false
attribute [local go_sem] Oper.semAt_some

theorem Boxed.other {W : World} {B : Nat} {t : TypeId} {v : Value} (h : Boxed W B t v) {b : Nat} (hb : B ≠ b) (u : Value) : Boxed (W.setCell ⟨b, 0, none⟩ u) B t v :=
  h.kept (grownBy_setCell' W b u) (by intro e; injection e with e; exact hb e)
/-- What strings.Lines hands back. -/
theorem lines_seq (n : Nat) (hn : 1 ≤ n) (bx : Nat) (t : List UInt8) (ht : t.length ≤ 1000000) (w : World) (hb : Blk w bx #[.string (ba t)]) :
    SeqX Fence.wide n Tryd.prog 27 #[.pointer (some ⟨bx, 0, none⟩)] (fun x => #[.string (ba (headR x))]) (fun k => k = bx) (fun xs => restAt xs.length t = []) (fun _ => True) (fun pre x => x = restAt pre.length t ∧ x ≠ []) w := by
  intro l J Jx O W hW hO hJ hJx hY h0
  exact lines1_in n hn l bx t ht J Jx O W hJ hJx hY (fun k hk => ⟨Nat.lt_of_lt_of_le (hO k hk).1 hW.size, (hO k hk).2⟩) (hb.same (hW.block bx hb.1) hW.size) h0
theorem lines_in (n : Nat) (s : ByteArray) (w : World) :
    CallsIn Fence.wide n Tryd.prog 16 #[.string s] w fun e w' => e = .returned (.func (.func 27) #[] #[.pointer (some ⟨w.heap.size, 0, none⟩)]) ∧ w' = w.alloc (.cells #[.string s] 9) := by
  have hro : Fence.wide.round = none := rfl
  refine callsIn_of_wp Tryd.func16 rfl trivial ?_ hro
  simp only [Tryd.ntmps16, List.size_toArray, List.length_cons, List.length_nil, Nat.reduceAdd, Nat.reduceSub, Array.replicate_succ, Array.replicate_zero, List.push_toArray, List.append_toArray, List.nil_append, List.cons_append]
  gi_wp2
  go_ret
  exact ⟨by simp, rfl⟩

/-- What holds at the head of a round. -/
structure PaI (w : World) (g : Nat) (t : List UInt8) (R : List Evt × Nat × Int) (pre : List (List UInt8)) (O : Nat → Prop) (W : World) : Prop where
  par : ∃ done A n c, parseL done pre.length (linesL [] (restAt pre.length t)) = R ∧ done.length = n ∧ n ≤ 65536 ∧ Boxed W (g + 3) 22 (.slice A n c) ∧ W.ownsRow (g + 6) 40 4 (.slice A n c) n (flatL encE done) ∧ ∀ b, (Value.slice A n c).ownBlock = some b → O b
  num : Boxed W (g + 4) 3 (.int .i64 (pre.length : Nat))
  r0 : Boxed W g 22 (.slice none 0 0)
  r1 : Boxed W (g + 1) 3 (.int .i64 0)
  r2 : Boxed W (g + 2) 23 (.int .i64 0)
  o : ∀ k, k < g + 5 → g ≤ k → O k
  no : ¬ O (g + 5)
  below : Below g w W
  size : g + 6 ≤ W.heap.size
/-- What holds behind a return. -/
structure PaX (w : World) (g : Nat) (R : List Evt × Nat × Int) (O : Nat → Prop) (W : World) : Prop where
  par : ∃ n z, R = ([], n, z) ∧ Boxed W g 22 (.slice none 0 0) ∧ Boxed W (g + 1) 3 (.int .i64 (n : Nat)) ∧ Boxed W (g + 2) 23 (.int .i64 z)
  o : ∀ k, k < g + 5 → g ≤ k → O k
  below : Below g w W
section
variable {w : World} {g : Nat} {t : List UInt8} {R : List Evt × Nat × Int}
theorem PaI.keep {pre : List (List UInt8)} {O : Nat → Prop} {A B : World} {row : Option Nat} (h : PaI w g t R pre O A) (hg : A.grownBy B row) (hr : ∀ r, row = some r → g + 5 ≤ r ∧ ¬ O r) : PaI w g t R pre O B := by
  have hne : ∀ k, k < g + 5 → g ≤ k → some k ≠ row := fun k h1 h2 e => (hr k e.symm).2 (h.o k h1 h2)
  obtain ⟨done, A', n, c, h1, h2, h3, h4, h5, h6⟩ := h.par
  refine ⟨⟨done, A', n, c, h1, h2, h3, h4.kept hg (hne _ (by omega) (by omega)), h5.kept hg ?_, h6⟩, h.num.kept hg (hne _ (by omega) (by omega)), h.r0.kept hg (hne _ (by omega) (by omega)), h.r1.kept hg (hne _ (by omega) (by omega)), h.r2.kept hg (hne _ (by omega) (by omega)), h.o, h.no, h.below.grown hg (Nat.le_trans (by omega) h.size) (fun k e => by have := (hr k e).1; omega), Nat.le_trans h.size hg.size⟩
  cases hv : (Value.slice A' n c).ownBlock with
  | none => exact .inl rfl
  | some b => exact .inr fun e => (hr b (by rw [← e])).2 (h6 b hv)
theorem PaX.keep {O : Nat → Prop} {A B : World} {row : Option Nat} (h : PaX w g R O A) (hg : A.grownBy B row) (hs : g ≤ A.heap.size) (hr : ∀ r, row = some r → g + 5 ≤ r ∧ ¬ O r) : PaX w g R O B := by
  have hne : ∀ k, k < g + 5 → g ≤ k → some k ≠ row := fun k h1 h2 e => (hr k e.symm).2 (h.o k h1 h2)
  obtain ⟨n, z, h1, h2, h3, h4⟩ := h.par
  exact ⟨⟨n, z, h1, h2.kept hg (hne _ (by omega) (by omega)), h3.kept hg (hne _ (by omega) (by omega)), h4.kept hg (hne _ (by omega) (by omega))⟩, h.o, h.below.grown hg hs (fun k e => by have := (hr k e).1; omega)⟩
end
/-- What a round writes. -/
structure OldX (O : Nat → Prop) (A B : World) : Prop where
  size : A.heap.size ≤ B.heap.size
  old : ∀ k, k < A.heap.size → ¬ O k → B.heap[k]? = A.heap[k]?
section
variable {O : Nat → Prop} {A B C : World}
theorem OldX.refl : OldX O A A := ⟨Nat.le_refl _, fun _ _ _ => rfl⟩
theorem OldX.trans (h : OldX O A B) (h' : OldX O B C) : OldX O A C := ⟨Nat.le_trans h.size h'.size, fun k hk ho => (h'.old k (Nat.lt_of_lt_of_le hk h.size) ho).trans (h.old k hk ho)⟩
theorem OldX.set {b : Nat} (hb : O b) (u : Value) : OldX O A (A.setCell ⟨b, 0, none⟩ u) := ⟨by simp, fun k _ ho => Below.heap_setCell _ _ _ _ (by intro e; exact ho (by rw [e]; exact hb))⟩
theorem OldX.below (h : Below A.heap.size A B) : OldX O A B := ⟨h.size, fun k hk _ => h.block k hk⟩
theorem OldX.grown {row : Option Nat} (h : A.grownBy B row) (hr : ∀ r, row = some r → O r) : OldX O A B := ⟨h.size, fun k hk ho => h.block k hk fun e => ho (hr k e.symm)⟩
theorem OldX.drew (h : OldX O A B) : OldX O A B.drew := ⟨h.size, h.old⟩
theorem OldX.keep (h : OldX O A B) (hl : ∀ k, O k → k < A.heap.size) : KeepX O (fun k => O k ∨ (A.heap.size ≤ k ∧ k < B.heap.size)) A B :=
  ⟨h.size, h.old, fun k hk => hk.elim .inl fun h => .inr h.1, fun k hk => hk.elim (fun h' => Nat.lt_of_lt_of_le (hl k h') h.size) fun h => h.2⟩
end
theorem rest_count : ∀ (k : Nat) (l : List UInt8), restAt k l ≠ [] → k + (restAt k l).length ≤ l.length
  | 0, l, _ => by show 0 + l.length ≤ _; omega
  | k + 1, l, h => by
    have h' : tailR (restAt k l) ≠ [] := h
    have h0 : restAt k l ≠ [] := fun e => by rw [e] at h'; exact h' rfl
    have ih := rest_count k l h0
    have h1 : 0 < (restAt k l).length := List.length_pos_iff.2 h0
    show k + 1 + (tailR (restAt k l)).length ≤ _
    unfold tailR
    rw [List.length_drop]
    omega
section
variable {w : World} {g : Nat} {t : List UInt8} {R : List Evt × Nat × Int} {pre : List (List UInt8)} {O : Nat → Prop} {W W2 w3 : World} {x : List UInt8}
theorem PaI.lines (hx : x = restAt pre.length t) (hne : x ≠ []) : linesL [] (restAt pre.length t) = Lib.trimSuffix (headR x) [10] :: linesL [] (restAt (pre.length + 1) t) := by
  rw [hx] at hne
  rw [lines_raw hne, hx]
  rfl
/-- Behind a round. -/
theorem PaI.next {done L : List Evt} {A A3 : Option Addr} {c c3 : Nat} (h : PaI w g t R pre O W) (hl : ∀ k, O k → k < W.heap.size) (hx : x = restAt pre.length t) (hne : x ≠ []) (hp : parseL done pre.length (linesL [] (restAt pre.length t)) = R) (hL : lineE (Lib.trimSuffix (headR x) [10]) = some L) (hf : done.length + L.length ≤ 65536)
    (bo : Boxed W (g + 3) 22 (.slice A done.length c)) (hw : W.ownsRow (g + 6) 40 4 (.slice A done.length c) done.length (flatL encE done)) (ow : ∀ b, (Value.slice A done.length c).ownBlock = some b → O b)
    (hb2 : Below (W.setCell ⟨g + 4, 0, none⟩ (.int .i64 ((pre.length : Int) + 1))).heap.size (W.setCell ⟨g + 4, 0, none⟩ (.int .i64 ((pre.length : Int) + 1))) W2)
    (hP : Pushed W2 w3 (g + 6) 40 4 (.slice A done.length c) (done.length + L.length) (flatL encE done ++ flatL encE L) A3 c3) :
    ∃ O', KeepX O O' W (w3.setCell ⟨g + 3, 0, none⟩ (.slice A3 (done.length + L.length) c3)) ∧ PaI w g t R (pre ++ [x]) O' (w3.setCell ⟨g + 3, 0, none⟩ (.slice A3 (done.length + L.length) c3)) := by
  have hsz := h.size
  have o3 := h.o (g + 3) (by omega) (by omega)
  have o4 := h.o (g + 4) (by omega) (by omega)
  obtain ⟨W1, hW1⟩ : ∃ W1, W.setCell ⟨g + 4, 0, none⟩ (.int .i64 ((pre.length : Int) + 1)) = W1 := ⟨_, rfl⟩
  rw [hW1] at hb2
  have hs1 : W1.heap.size = W.heap.size := by rw [← hW1]; simp
  have x1 : OldX O W W1 := by rw [← hW1]; exact OldX.set o4 _
  have x2 : OldX O W W2 := x1.trans (OldX.below hb2)
  have x3 : OldX O W w3 := x2.trans (OldX.grown hP.grown ow)
  have x4 : OldX O W (w3.setCell ⟨g + 3, 0, none⟩ (.slice A3 (done.length + L.length) c3)) := x3.trans (OldX.set o3 _)
  have e3 := x3.size
  have e2 := x2.size
  refine ⟨_, x4.keep hl, ?_⟩
  -- a box stays
  have b1 : ∀ {B : Nat} {T : TypeId} {v : Value}, Boxed W1 B T v → B < g + 6 → Boxed w3 B T v := fun {B T v} hB hlt => by
    have h2 : Boxed W2 B T v := (hb2.block B (by rw [hs1]; omega)).trans hB
    refine h2.kept hP.grown fun e => ?_
    have := (hw.lt B e.symm).1
    omega
  have bW : ∀ {B : Nat} {T : TypeId} {v : Value}, Boxed W B T v → B < g + 6 → B ≠ g + 4 → Boxed w3 B T v := fun {B T v} hB hlt hne => b1 (by rw [← hW1]; exact Boxed.other hB hne _) hlt
  have hlw : (pre ++ [x]).length = pre.length + 1 := by simp
  refine ⟨⟨done ++ L, A3, done.length + L.length, c3, ?_, by simp, hf, (bW bo (by omega) (by omega)).set _, ?_, fun b hb => ?_⟩, ?_, Boxed.other (bW h.r0 (by omega) (by omega)) (by omega) _, Boxed.other (bW h.r1 (by omega) (by omega)) (by omega) _, Boxed.other (bW h.r2 (by omega) (by omega)) (by omega) _, fun k h1 h2 => .inl (h.o k h1 h2), fun hk => ?_, ?_, by rw [World.size_setCell]; omega⟩
  · rw [hlw, ← hp, PaI.lines hx hne]
    exact (parse_one hL hf _).symm
  · rw [flatL_append]
    refine hP.own.kept (grownBy_setCell' w3 (g + 3) _) ?_
    cases hv : (Value.slice A3 (done.length + L.length) c3).ownBlock with
    | none => exact .inl rfl
    | some b => exact .inr fun e => by injection e with e; have := (hP.own.lt b hv).1; omega
  · rcases hP.at_ with e | ⟨k, e, hk⟩
    · exact .inl (ow b (by rw [← e]; exact hb))
    · have := hP.own.lt b hb
      rw [hb] at e
      injection e with e
      exact .inr ⟨by omega, by rw [World.size_setCell]; exact this.2⟩
  · rw [hlw]
    have h4 : Boxed W1 (g + 4) 3 (.int .i64 ((pre.length : Int) + 1)) := by rw [← hW1]; exact h.num.set _
    exact Boxed.other (b1 h4 (by omega)) (by omega) _
  · rcases hk with hk | hk
    · exact h.no hk
    · omega
  · have y1 : Below g w W1 := by rw [← hW1]; exact h.below.setCell (p := ⟨g + 4, 0, none⟩) (by show g ≤ g + 4; omega) _
    have y2 : Below g w W2 := y1.trans (hb2.mono (by omega))
    exact (y2.grown hP.grown (by omega) (fun k e => by have := (hw.lt k e).1; omega)).setCell (p := ⟨g + 3, 0, none⟩) (by show g ≤ g + 3; omega) _
/-- Behind a round that returns. -/
theorem PaI.stop {W' : World} {n : Nat} {z : Int} (h : PaI w g t R pre O W) (hl : ∀ k, O k → k < W.heap.size) (hR : R = ([], n, z)) (hb2 : Below (W.setCell ⟨g + 4, 0, none⟩ (.int .i64 ((pre.length : Int) + 1))).heap.size (W.setCell ⟨g + 4, 0, none⟩ (.int .i64 ((pre.length : Int) + 1))) W2)
    (hx : OldX O W2 W') (hb : Below g W2 W') (r0 : Boxed W' g 22 (.slice none 0 0)) (r1 : Boxed W' (g + 1) 3 (.int .i64 (n : Nat))) (r2 : Boxed W' (g + 2) 23 (.int .i64 z)) :
    ∃ O', KeepX O O' W W' ∧ PaX w g R O' W' := by
  have hsz := h.size
  have o4 := h.o (g + 4) (by omega) (by omega)
  have x1 : OldX O W (W.setCell ⟨g + 4, 0, none⟩ (.int .i64 ((pre.length : Int) + 1))) := OldX.set o4 _
  refine ⟨_, ((x1.trans (OldX.below hb2)).trans hx).keep hl, ⟨n, z, hR, r0, r1, r2⟩, fun k h1 h2 => .inl (h.o k h1 h2), ?_⟩
  have y1 : Below g w (W.setCell ⟨g + 4, 0, none⟩ (.int .i64 ((pre.length : Int) + 1))) := h.below.setCell (p := ⟨g + 4, 0, none⟩) (by show g ≤ g + 4; omega) _
  exact (y1.trans (hb2.mono (by simp; omega))).trans hb
end
section
variable {w : World} {g : Nat} {t : List UInt8} {R : List Evt × Nat × Int} {pre : List (List UInt8)} {O : Nat → Prop} {W W2 : World} {x : List UInt8}
theorem PaI.leave {z : Int} (h : PaI w g t R pre O W) (hl : ∀ k, O k → k < W.heap.size) (hR : R = ([], pre.length + 1, z)) (hb2 : Below (W.setCell ⟨g + 4, 0, none⟩ (.int .i64 ((pre.length : Int) + 1))).heap.size (W.setCell ⟨g + 4, 0, none⟩ (.int .i64 ((pre.length : Int) + 1))) W2)
    (r0 : Boxed W2 g 22 (.slice none 0 0)) (r1 : Boxed W2 (g + 1) 3 (.int .i64 0)) (r2 : Boxed W2 (g + 2) 23 (.int .i64 0)) :
    ∃ O', KeepX O O' W (((W2.setCell ⟨g, 0, none⟩ (.slice none 0 0)).setCell ⟨g + 1, 0, none⟩ (.int .i64 ((pre.length : Int) + 1))).setCell ⟨g + 1 + 1, 0, none⟩ (.int .i64 z)).drew ∧ PaX w g R O' (((W2.setCell ⟨g, 0, none⟩ (.slice none 0 0)).setCell ⟨g + 1, 0, none⟩ (.int .i64 ((pre.length : Int) + 1))).setCell ⟨g + 1 + 1, 0, none⟩ (.int .i64 z)).drew ∧ g ≤ (((W2.setCell ⟨g, 0, none⟩ (.slice none 0 0)).setCell ⟨g + 1, 0, none⟩ (.int .i64 ((pre.length : Int) + 1))).setCell ⟨g + 1 + 1, 0, none⟩ (.int .i64 z)).drew.heap.size := by
  have hsz := h.size
  have hs2 := hb2.size
  rw [World.size_setCell] at hs2
  obtain ⟨O', k1, k2⟩ := PaI.stop (W' := (((W2.setCell ⟨g, 0, none⟩ (.slice none 0 0)).setCell ⟨g + 1, 0, none⟩ (.int .i64 ((pre.length : Int) + 1))).setCell ⟨g + 1 + 1, 0, none⟩ (.int .i64 z)).drew) h hl hR hb2
    (((OldX.set (h.o g (by omega) (by omega)) _).trans (OldX.set (h.o (g + 1) (by omega) (by omega)) _)).trans (OldX.set (h.o (g + 1 + 1) (by omega) (by omega)) _)).drew
    (by
      have y : Below g W2 (((W2.setCell ⟨g, 0, none⟩ (.slice none 0 0)).setCell ⟨g + 1, 0, none⟩ (.int .i64 ((pre.length : Int) + 1))).setCell ⟨g + 1 + 1, 0, none⟩ (.int .i64 z)) := (((Below.refl _ _).setCell (p := ⟨g, 0, none⟩) (Nat.le_refl g) _).setCell (p := ⟨g + 1, 0, none⟩) (by show g ≤ g + 1; omega) _).setCell (p := ⟨g + 1 + 1, 0, none⟩) (by show g ≤ g + 1 + 1; omega) _
      exact y.drew)
    (Boxed.other (Boxed.other (r0.set _) (by omega) _) (by omega) _)
    (Boxed.other ((Boxed.other r1 (by omega) _).set _) (by omega) _)
    (Boxed.set _ (Boxed.other (Boxed.other r2 (by omega) _) (by omega) _))
  refine ⟨O', k1, k2, ?_⟩
  show g ≤ (((W2.setCell ⟨g, 0, none⟩ (.slice none 0 0)).setCell ⟨g + 1, 0, none⟩ (.int .i64 ((pre.length : Int) + 1))).setCell ⟨g + 1 + 1, 0, none⟩ (.int .i64 z)).heap.size
  simp
  omega
end
section
variable {w : World} {g : Nat} {t : List UInt8} {R : List Evt × Nat × Int} {pre : List (List UInt8)} {O : Nat → Prop} {W : World}
theorem box_put {W : World} {B D : Nat} {T : TypeId} {v : Value} (h : Boxed W B T v) (hB : B ≠ D) (o : Obj) : Boxed (W.putObj D o) B T v := (World.putObj_heap_other hB).trans h
/-- At the end. -/
theorem PaI.fin {done : List Evt} {A : Option Addr} {c D : Nat} (h : PaI w w.heap.size t R pre O W) (hD : w.heap.size + 6 ≤ D) (hp : R = parseL done pre.length (linesL [] [])) (h0 : True = True) (h6 : done.length ≤ 65536) (bo : Boxed W (w.heap.size + 3) 22 (.slice A done.length c)) (hw : W.ownsRow (w.heap.size + 6) 40 4 (.slice A done.length c) done.length (flatL encE done)) (hd : W.heap[D]? = some (.deferred (some []))) :
    (((W.setCell ⟨w.heap.size, 0, none⟩ (.slice A done.length c)).setCell ⟨w.heap.size + 1, 0, none⟩ (.int .i64 0)).setCell ⟨w.heap.size + 1 + 1, 0, none⟩ (.int .i64 0)).heap[D]? = some (.deferred (some [])) ∧
    ((((W.setCell ⟨w.heap.size, 0, none⟩ (.slice A done.length c)).setCell ⟨w.heap.size + 1, 0, none⟩ (.int .i64 0)).setCell ⟨w.heap.size + 1 + 1, 0, none⟩ (.int .i64 0)).putObj D (.deferred none)).cell? ⟨w.heap.size, 0, none⟩ = some (.slice A done.length c) ∧
    ((((W.setCell ⟨w.heap.size, 0, none⟩ (.slice A done.length c)).setCell ⟨w.heap.size + 1, 0, none⟩ (.int .i64 0)).setCell ⟨w.heap.size + 1 + 1, 0, none⟩ (.int .i64 0)).putObj D (.deferred none)).cell? ⟨w.heap.size + 1, 0, none⟩ = some (.int .i64 0) ∧
    ((((W.setCell ⟨w.heap.size, 0, none⟩ (.slice A done.length c)).setCell ⟨w.heap.size + 1, 0, none⟩ (.int .i64 0)).setCell ⟨w.heap.size + 1 + 1, 0, none⟩ (.int .i64 0)).putObj D (.deferred none)).cell? ⟨w.heap.size + 1 + 1, 0, none⟩ = some (.int .i64 0) ∧
    ParseOut w ((((W.setCell ⟨w.heap.size, 0, none⟩ (.slice A done.length c)).setCell ⟨w.heap.size + 1, 0, none⟩ (.int .i64 0)).setCell ⟨w.heap.size + 1 + 1, 0, none⟩ (.int .i64 0)).putObj D (.deferred none)) R (.returned (.tuple #[.slice A done.length c, .int .i64 0, .int .i64 0])) := by
  obtain ⟨V, hV⟩ : ∃ V, ((W.setCell ⟨w.heap.size, 0, none⟩ (.slice A done.length c)).setCell ⟨w.heap.size + 1, 0, none⟩ (.int .i64 0)).setCell ⟨w.heap.size + 1 + 1, 0, none⟩ (.int .i64 0) = V := ⟨_, rfl⟩
  have hsz := h.size
  have r0 : Boxed V w.heap.size 22 (.slice A done.length c) := by rw [← hV]; exact Boxed.other (Boxed.other (h.r0.set _) (by omega) _) (by omega) _
  have r1 : Boxed V (w.heap.size + 1) 3 (.int .i64 0) := by rw [← hV]; exact Boxed.other ((Boxed.other h.r1 (by omega) _).set _) (by omega) _
  have r2 : Boxed V (w.heap.size + 1 + 1) 23 (.int .i64 0) := by rw [← hV]; exact Boxed.set _ (Boxed.other (Boxed.other h.r2 (by omega) _) (by omega) _)
  have hdV : V.heap[D]? = some (.deferred (some [])) := by
    rw [← hV, Below.heap_setCell _ _ _ _ (by show D ≠ w.heap.size + 1 + 1; omega), Below.heap_setCell _ _ _ _ (by show D ≠ w.heap.size + 1; omega), Below.heap_setCell _ _ _ _ (by show D ≠ w.heap.size; omega)]
    exact hd
  have hwV : V.ownsRow (w.heap.size + 6) 40 4 (.slice A done.length c) done.length (flatL encE done) := by
    have key : ∀ {X : World} {b : Nat} {u : Value}, b < w.heap.size + 6 → X.ownsRow (w.heap.size + 6) 40 4 (.slice A done.length c) done.length (flatL encE done) → (X.setCell ⟨b, 0, none⟩ u).ownsRow (w.heap.size + 6) 40 4 (.slice A done.length c) done.length (flatL encE done) := fun {X b u} hb hx => by
      refine hx.kept (grownBy_setCell' X b _) ?_
      cases hv : (Value.slice A done.length c).ownBlock with
      | none => exact .inl rfl
      | some k => exact .inr fun e => by injection e with e; have := (hx.lt k hv).1; omega
    rw [← hV]
    exact key (by omega) (key (by omega) (key (by omega) hw))
  have hbV : Below w.heap.size w V := by
    rw [← hV]
    exact ((h.below.setCell (p := ⟨w.heap.size, 0, none⟩) (Nat.le_refl _) _).setCell (p := ⟨w.heap.size + 1, 0, none⟩) (by show w.heap.size ≤ w.heap.size + 1; omega) _).setCell (p := ⟨w.heap.size + 1 + 1, 0, none⟩) (by show w.heap.size ≤ w.heap.size + 1 + 1; omega) _
  rw [hV]
  have hR : R = (done, 0, 0) := hp
  refine ⟨hdV, (box_put r0 (by omega) _).cell, (box_put r1 (by omega) _).cell, (box_put r2 (by omega) _).cell, ?_⟩
  rw [hR]
  exact ⟨⟨A, c, rfl, (LiV.own encE_len (by decide) (ownsRow_putObj hwV (.deferred none) hdV rfl)).mono fun b hb => Nat.le_trans (by omega) hb, h6⟩, hbV.grown (grownBy_putObj' V D _) hbV.size (fun k e => by cases e; omega)⟩
theorem PaX.fin {n : Nat} {z : Int} {D : Nat} (h : PaX w w.heap.size R O W) (hs : w.heap.size ≤ W.heap.size) (hD : w.heap.size + 6 ≤ D) (hR : R = ([], n, z)) (r0 : Boxed W w.heap.size 22 (.slice none 0 0)) (r1 : Boxed W (w.heap.size + 1) 3 (.int .i64 (n : Nat))) (r2 : Boxed W (w.heap.size + 2) 23 (.int .i64 z)) (hd : W.heap[D]? = some (.deferred (some []))) :
    (W.putObj D (.deferred none)).cell? ⟨w.heap.size, 0, none⟩ = some (.slice none 0 0) ∧ (W.putObj D (.deferred none)).cell? ⟨w.heap.size + 1, 0, none⟩ = some (.int .i64 (n : Nat)) ∧ (W.putObj D (.deferred none)).cell? ⟨w.heap.size + 1 + 1, 0, none⟩ = some (.int .i64 z) ∧
    ParseOut w (W.putObj D (.deferred none)) R (.returned (.tuple #[.slice none 0 0, .int .i64 (n : Nat), .int .i64 z])) :=
  ⟨(box_put r0 (by omega) _).cell, (box_put r1 (by omega) _).cell, (box_put r2 (by omega) _).cell, ParseOut.bad hR (h.below.grown (grownBy_putObj' W D _) hs (fun k e => by cases e; omega))⟩
end
set_option maxRecDepth 100000 in
set_option maxHeartbeats 4000000 in
theorem parse_in (s : ByteArray) (hs : s.size ≤ 1000000) (w : World) (hT : TabW w.heap.size w) : CallsIn Fence.wide 6 Tryd.prog 8 #[.string s] w fun e w' => ParseOut w w' (parseP s.data.toList) e := by
  have hro : Fence.wide.round = none := rfl
  have h1 : 1 ≤ 6 := by omega
  have hsz : s.data.toList.length = s.size := Array.length_toList
  obtain ⟨R, hR⟩ : ∃ R, parseP s.data.toList = R := ⟨_, rfl⟩
  rw [hR]
  unfold parseP at hR
  rw [hsz] at hR
  refine callsIn_of_wp_marks Tryd.func8 rfl trivial ?_ hro
  simp only [Tryd.ntmps8, List.size_toArray, List.length_cons, List.length_nil, Nat.reduceAdd, Nat.reduceSub, Array.replicate_succ, Array.replicate_zero, List.push_toArray, List.append_toArray, List.nil_append, List.cons_append]
  have HT := Lib.hid hT
  clear hT
  by_cases h : 262144 < s.size
  · rw [if_pos h] at hR
    have d1 : (262144 : Int) < (s.size : Int) := by omega
    have HR := Lib.hid hR
    clear hR
    gi_wp2
    refine ⟨.tuple #[.slice none 0 0, .int .i64 0, .int .i64 3], by simp [results, Tryd.results8, go_sem], ?_⟩
    exact ParseOut.bad (n := 0) (z := 3) HR.out.symm ((((Below.refl _ w).alloc (Nat.le_refl _) _).alloc (by simp) _).alloc (by simp; omega) _)
  · rw [if_neg h] at hR
    have d1 : ¬ (262144 : Int) < (s.size : Int) := by omega
    have HR := Lib.hid hR
    clear hR
    gi_wp2_with (refine ⟨trivial, ?_⟩; gi_at_call 16; refine (lines_in (6 - 1) _ _).mono ?_; rintro e w' ⟨rfl, rfl⟩)
    obtain ⟨X, hX⟩ : ∃ X, (((((w.alloc (.cells #[.slice none 0 0] 22)).alloc (.cells #[.int .i64 0] 3)).alloc (.cells #[.int .i64 0] 23)).alloc (.cells #[.slice none 0 0] 22)).alloc (.cells #[.int .i64 0] 3)).alloc (.cells #[.string s] 9) = X := ⟨_, rfl⟩
    have hX6 : X.heap.size = w.heap.size + 6 := by rw [← hX]; simp
    have hbX : Below w.heap.size w X := by
      rw [← hX]
      exact ((((((Below.refl _ w).alloc (Nat.le_refl _) _).alloc (by simp) _).alloc (by simp; omega) _).alloc (by simp; omega) _).alloc (by simp; omega) _).alloc (by simp; omega) _
    have hPI : ∀ O : Nat → Prop, (∀ k, k < w.heap.size + 5 → w.heap.size ≤ k → O k) → ¬ O (w.heap.size + 5) → PaI w w.heap.size s.data.toList R [] O X := by
      intro O ho hno
      have q0 := Boxed.new w 22 (.slice none 0 0)
      have q1 := Boxed.new (w.alloc (.cells #[.slice none 0 0] 22)) 3 (.int .i64 0)
      have q2 := Boxed.new ((w.alloc (.cells #[.slice none 0 0] 22)).alloc (.cells #[.int .i64 0] 3)) 23 (.int .i64 0)
      have q3 := Boxed.new (((w.alloc (.cells #[.slice none 0 0] 22)).alloc (.cells #[.int .i64 0] 3)).alloc (.cells #[.int .i64 0] 23)) 22 (.slice none 0 0)
      have q4 := Boxed.new ((((w.alloc (.cells #[.slice none 0 0] 22)).alloc (.cells #[.int .i64 0] 3)).alloc (.cells #[.int .i64 0] 23)).alloc (.cells #[.slice none 0 0] 22)) 3 (.int .i64 0)
      simp only [World.size_alloc] at q0 q1 q2 q3 q4
      refine ⟨⟨[], none, 0, 0, HR.out, rfl, by omega, ?_, World.ownsRow_nil _ _ _ _, fun b e => by cases e⟩, ?_, ?_, ?_, ?_, ho, hno, hbX, by omega⟩
      · rw [← hX]; exact (q3.alloc _).alloc _
      · rw [← hX]; exact q4.alloc _
      · rw [← hX]; exact ((((q0.alloc _).alloc _).alloc _).alloc _).alloc _
      · rw [← hX]; exact (((q1.alloc _).alloc _).alloc _).alloc _
      · rw [← hX]; exact ((q2.alloc _).alloc _).alloc _
    have hbl : Blk X (w.heap.size + 1 + 1 + 1 + 1 + 1) #[.string (ba s.data.toList)] := by
      have h := blk_new (((((w.alloc (.cells #[.slice none 0 0] 22)).alloc (.cells #[.int .i64 0] 3)).alloc (.cells #[.int .i64 0] 23)).alloc (.cells #[.slice none 0 0] 22)).alloc (.cells #[.int .i64 0] 3)) #[.string s] 9
      simp only [World.size_alloc] at h
      rw [← hX]
      exact h
    rw [hX]
    clear hX
    have HR2 := HR
    clear HR
    refine wpIn_rangeX hro h1 (gf := 27) (lb := #[.pointer (some ⟨w.heap.size + 1 + 1 + 1 + 1 + 1, 0, none⟩)]) rfl trivial (enters_of Tryd.func27 (by kernel_rfl) rfl)
      (K := fun k => k = w.heap.size + 1 + 1 + 1 + 1 + 1) (by rintro k rfl; omega) (lines_seq (6 - 1) (by omega) (w.heap.size + 1 + 1 + 1 + 1 + 1) s.data.toList (by rw [hsz]; exact hs) X hbl) (fun _ => rfl)
      (fun k => w.heap.size ≤ k ∧ k < w.heap.size + 5) (fun k hk => ⟨by omega, by omega⟩)
      (fun pre O W => PaI w w.heap.size s.data.toList R pre O W) (fun pre O W => PaX w w.heap.size R O W ∧ w.heap.size ≤ W.heap.size)
      (fun q O W => PaI w w.heap.size s.data.toList R q.1 O W ∧ (q.2.1 = restAt q.1.length s.data.toList ∧ q.2.1 ≠ []) ∧ q.2.2 = { tmps := #[.string s, undef, .pointer (some ⟨w.heap.size, 0, none⟩), .pointer (some ⟨w.heap.size + 1, 0, none⟩), .pointer (some ⟨w.heap.size + 1 + 1, 0, none⟩), .pointer (some ⟨w.heap.size + 1 + 1 + 1, 0, none⟩), .pointer (some ⟨w.heap.size + 1 + 1 + 1 + 1, 0, none⟩), .string (ba (headR q.2.1)), undef, undef, .string s, .int .i64 (s.size : Int), .bool false, .string s, .func (.func 27) #[] #[.pointer (some ⟨w.heap.size + 1 + 1 + 1 + 1 + 1, 0, none⟩)], .string (ba (headR q.2.1)), undef, undef, undef, undef, undef, undef, undef, undef, undef, undef, undef, undef, undef, undef, undef, undef, undef, undef, undef, undef, undef, undef], defers := [] })
      (fun pre O A B row h hg hr => h.keep hg fun r e => ⟨by have := (hr r e).1; omega, (hr r e).2⟩)
      (fun pre O A B row h hg hr => ⟨h.1.keep hg h.2 fun r e => ⟨by have := (hr r e).1; omega, (hr r e).2⟩, Nat.le_trans h.2 hg.size⟩)
      (fun q O A B row h hg hr => ⟨h.1.keep hg fun r e => ⟨by have := (hr r e).1; omega, (hr r e).2⟩, h.2⟩)
      (hPI _ (fun k h1 h2 => ⟨h2, h1⟩) (by omega)) ?assign ?body ?done ?stop
    case assign =>
      intro l pre O x W hI hlt hN
      have HN := Lib.hid hN
      clear hN
      gi_wp2
      exact ⟨World.grownBy.refl _ _, O, fun k hk => .inl hk, hlt, hI, HN.out, by first | rfl | trivial⟩
    case body =>
      rintro l pre O x a' W ⟨hI, ⟨hx, hne⟩, ha⟩ hlt hlO
      dsimp only at ha
      subst ha
      dsimp only at hx hne hI ⊢
      have hcnt := rest_count pre.length s.data.toList (by rw [← hx]; exact hne)
      rw [← hx, hsz] at hcnt
      have hhl := head_len x
      have htl := trim_len (headR x)
      obtain ⟨hd, hhd⟩ : ∃ hd, headR x = hd := ⟨_, rfl⟩
      obtain ⟨done, A, n, c, p1, rfl, p3, p4, p5, p6⟩ := hI.par
      have HX := Lib.hid (And.intro hx hne)
      have HI := Lib.hid hI
      have HP := Lib.hid (show parseL done pre.length (linesL [] (restAt pre.length s.data.toList)) = R ∧ Boxed W (w.heap.size + 3) 22 (.slice A done.length c) ∧ W.ownsRow (w.heap.size + 6) 40 4 (.slice A done.length c) done.length (flatL encE done) ∧ ∀ b, (Value.slice A done.length c).ownBlock = some b → O b from ⟨p1, p4, p5, p6⟩)
      have HLO := Lib.hid hlO
      have hszW := hI.size
      have c6 : W.cell? ⟨w.heap.size + 1 + 1 + 1 + 1, 0, none⟩ = some (.int .i64 (pre.length : Int)) := hI.num.cell
      have f6 : W.frozen? ⟨w.heap.size + 1 + 1 + 1 + 1, 0, none⟩ = false := hI.num.frozen
      have l6 : w.heap.size + 1 + 1 + 1 + 1 < W.heap.size := by omega
      have v6 : IntKind.i64.wrap ((pre.length : Int) + 1) = (pre.length : Int) + 1 := IntWalk.i64_in _ (by omega)
      obtain ⟨W1, hW1⟩ : ∃ W1, W.setCell ⟨w.heap.size + 1 + 1 + 1 + 1, 0, none⟩ (.int .i64 ((pre.length : Int) + 1)) = W1 := ⟨_, rfl⟩
      have hb1 : Below w.heap.size w W1 := by rw [← hW1]; exact hI.below.setCell (p := ⟨w.heap.size + 1 + 1 + 1 + 1, 0, none⟩) (by show w.heap.size ≤ w.heap.size + 1 + 1 + 1 + 1; omega) _
      have hs1 : W1.heap.size = W.heap.size := by rw [← hW1]; simp
      have CT := Lib.hid (trim_any (ba (headR x)) ⟨#[10]⟩ (by rw [ba_size]; omega) W1)
      rw [ba_list] at CT
      rw [show (ByteArray.mk #[10]).data.toList = [10] from rfl] at CT
      have CE := Lib.hid (events_any (ba (Lib.trimSuffix (headR x) [10])) (by rw [ba_size]; omega) W1 (tabW_next HT.out (Nat.le_refl _) hb1))
      rw [ba_list] at CE
      have HW1 := Lib.hid (And.intro hW1 hb1)
      rw [hhd] at CT CE htl hhl ⊢
      obtain ⟨tl, htlx⟩ : ∃ tl, Lib.trimSuffix hd [10] = tl := ⟨_, rfl⟩
      rw [htlx] at CT CE htl
      have HH := Lib.hid (show Lib.trimSuffix (headR x) [10] = tl by rw [hhd]; exact htlx)
      clear hx hne p1 p4 p5 p6 hI hlO hb1 hhd htlx hbl hPI
      gi_wp2_with (refine ⟨trivial, ?_⟩; refine (CallsIn.inRound l (callsIn_wide.2 CT.out)).mono ?_; rintro e w5 ⟨rfl, rfl⟩)
      refine ⟨trivial, ?_⟩
      refine (CallsIn.inRound l (callsIn_wide.2 CE.out)).mono ?_
      rintro e w2 ⟨⟨L, A2, c2, hL, rfl, hLi⟩ | ⟨hL, A2, n2, c2, rfl⟩, hb2⟩
      · have H2 := Lib.hid (And.intro hL (And.intro hLi hb2))
        have hlen := line_len hL
        obtain ⟨m, hm⟩ : ∃ m, L.length = m := ⟨_, rfl⟩
        rw [hm] at hlen ⊢
        have HM := Lib.hid hm
        have b3 : Boxed W1 (w.heap.size + 3) 22 (.slice A done.length c) := by rw [← HW1.out.1]; exact Boxed.other HP.out.2.1 (by omega) _
        have b3' : Boxed w2 (w.heap.size + 3) 22 (.slice A done.length c) := (hb2.block _ b3.lt).trans b3
        have c3 : w2.cell? ⟨w.heap.size + 1 + 1 + 1, 0, none⟩ = some (.slice A done.length c) := b3'.cell
        have HB2 := Lib.hid (show Boxed w2 w.heap.size 22 (.slice none 0 0) ∧ Boxed w2 (w.heap.size + 1) 3 (.int .i64 0) ∧ Boxed w2 (w.heap.size + 2) 23 (.int .i64 0) ∧ Boxed w2 (w.heap.size + 4) 3 (.int .i64 ((pre.length : Int) + 1)) by
          have k0 : Boxed W1 w.heap.size 22 (.slice none 0 0) := by rw [← HW1.out.1]; exact Boxed.other HI.out.r0 (by omega) _
          have k1 : Boxed W1 (w.heap.size + 1) 3 (.int .i64 0) := by rw [← HW1.out.1]; exact Boxed.other HI.out.r1 (by omega) _
          have k2 : Boxed W1 (w.heap.size + 2) 23 (.int .i64 0) := by rw [← HW1.out.1]; exact Boxed.other HI.out.r2 (by omega) _
          have k4 : Boxed W1 (w.heap.size + 4) 3 (.int .i64 ((pre.length : Int) + 1)) := by rw [← HW1.out.1]; exact HI.out.num.set _
          exact ⟨(hb2.block _ k0.lt).trans k0, (hb2.block _ k1.lt).trans k1, (hb2.block _ k2.lt).trans k2, (hb2.block _ k4.lt).trans k4⟩)
        have hb2s := hb2.size
        have HB3 := Lib.hid b3'
        clear hL hLi hb2 hm CT CE c6 f6 l6 b3 b3'
        by_cases hf : 65536 < done.length + m
        · have g1 : (65536 : Int) < (done.length : Int) + (m : Int) := by omega
          obtain rfl : R = ([], pre.length + 1, 7) := by
            rw [← HP.out.1, PaI.lines HX.out.1 HX.out.2, HH.out]
            exact parse_full H2.out.1 (by rw [HM.out]; exact hf)
          have HO := Lib.hid (PaI.leave (z := 7) HI.out HLO.out rfl (by have := H2.out.2.2; rw [← HW1.out.1] at this; exact this) HB2.out.1 HB2.out.2.1 HB2.out.2.2.1)
          have f0 : w2.frozen? ⟨w.heap.size, 0, none⟩ = false := HB2.out.1.frozen
          have f1 : w2.frozen? ⟨w.heap.size + 1, 0, none⟩ = false := HB2.out.2.1.frozen
          have f2 : w2.frozen? ⟨w.heap.size + 1 + 1, 0, none⟩ = false := HB2.out.2.2.1.frozen
          have c0 := HB2.out.1.cell
          have c1 : w2.cell? ⟨w.heap.size + 1, 0, none⟩ = some (.int .i64 0) := HB2.out.2.1.cell
          have c2' : w2.cell? ⟨w.heap.size + 1 + 1, 0, none⟩ = some (.int .i64 0) := HB2.out.2.2.1.cell
          have c4 : w2.cell? ⟨w.heap.size + 1 + 1 + 1 + 1, 0, none⟩ = some (.int .i64 ((pre.length : Int) + 1)) := HB2.out.2.2.2.cell
          have hmx : Tryd.prog.follows .mixedOrders = true := by kernel_rfl
          gi_wp2
          refine wpIn_region_any hmx (any_inRound l rfl ?_ _ _ _ _ ?_)
          · exact no_defer (by rfl)
          change wpAnyIn _ _ _ _ _ _ _ _ _ (World.drew _)
          refine wpAnyIn_ready (rs := [0, 1]) (by kernel_rfl) (by simp) ?_
          refine AllReadyIn.cons rfl (fun K hK => ?_) (AllReadyIn.cons rfl (fun K hK => ?_) AllReadyIn.nil)
          · go_simp; refine hK _ _ ?_; clear hK K
            refine wpAnyIn_ready (rs := [1]) (by kernel_rfl) (by simp) ?_
            refine AllReadyIn.cons rfl (fun K hK => ?_) AllReadyIn.nil
            go_simp; refine hK _ _ ?_; clear hK K
            refine wpAnyIn_ready (rs := [2]) (by kernel_rfl) (by simp) ?_
            refine AllReadyIn.cons rfl (fun K hK => ?_) AllReadyIn.nil
            go_simp; refine hK _ _ ?_; clear hK K
            refine wpAnyIn_ready (rs := [3]) (by kernel_rfl) (by simp) ?_
            refine AllReadyIn.cons rfl (fun K hK => ?_) AllReadyIn.nil
            go_simp; refine hK _ _ ?_; clear hK K
            refine wpAnyIn_done (by kernel_rfl) ?_ _
            gi_wp2
            exact HO.out
          · go_simp; refine hK _ _ ?_; clear hK K
            refine wpAnyIn_ready (rs := [0]) (by kernel_rfl) (by simp) ?_
            refine AllReadyIn.cons rfl (fun K hK => ?_) AllReadyIn.nil
            go_simp; refine hK _ _ ?_; clear hK K
            refine wpAnyIn_ready (rs := [2]) (by kernel_rfl) (by simp) ?_
            refine AllReadyIn.cons rfl (fun K hK => ?_) AllReadyIn.nil
            go_simp; refine hK _ _ ?_; clear hK K
            refine wpAnyIn_ready (rs := [3]) (by kernel_rfl) (by simp) ?_
            refine AllReadyIn.cons rfl (fun K hK => ?_) AllReadyIn.nil
            go_simp; refine hK _ _ ?_; clear hK K
            refine wpAnyIn_done (by kernel_rfl) ?_ _
            gi_wp2
            exact HO.out
        · have g1 : ¬ (65536 : Int) < (done.length : Int) + (m : Int) := by omega
          have hO1 : W1.ownsRow (w.heap.size + 6) 40 4 (.slice A done.length c) done.length (flatL encE done) := by
            rw [← HW1.out.1]
            refine HP.out.2.2.1.kept (grownBy_setCell' W (w.heap.size + 4) _) ?_
            cases hv : (Value.slice A done.length c).ownBlock with
            | none => exact .inl rfl
            | some b => exact .inr fun e => by injection e with e; have := (HP.out.2.2.1.lt b hv).1; omega
          have HOW := Lib.hid (own_later hO1 H2.out.2.2)
          have hz2 : w.heap.size + 6 ≤ w2.heap.size := by omega
          have f3 : w2.frozen? ⟨w.heap.size + 1 + 1 + 1, 0, none⟩ = false := HB3.out.frozen
          have HV := Lib.hid H2.out.2.1
          obtain rfl : L.length = m := HM.out
          clear HM hO1 c3
          have c3 : w2.cell? ⟨w.heap.size + 1 + 1 + 1, 0, none⟩ = some (.slice A done.length c) := HB3.out.cell
          gi_wp2_with (gi_at_builtin; refine listIn_li encE_len oneE evt_elt HOW.out hz2 rfl rfl rfl rfl HV.out (by unfold maxLen; omega) (by omega) ?_; intro A3 c5 w3 hp; have hb3 := Boxed.kept HB3.out hp.grown (by intro e; have := (HOW.out.lt _ e.symm).1; omega); have d3 : w3.cell? ⟨w.heap.size + 1 + 1 + 1, 0, none⟩ = some (.slice A done.length c) := hb3.cell; have e3 : w3.frozen? ⟨w.heap.size + 1 + 1 + 1, 0, none⟩ = false := hb3.frozen; have l3 : w.heap.size + 1 + 1 + 1 < w3.heap.size := hb3.lt; have HQ := Lib.hid hp; clear hp hb3)
          exact PaI.next HI.out HLO.out HX.out.1 HX.out.2 HP.out.1 (by rw [HH.out]; exact H2.out.1) (by omega) HP.out.2.1 HP.out.2.2.1 HP.out.2.2.2 (by have := H2.out.2.2; rw [← HW1.out.1] at this; exact this) HQ.out
      · have H2 := Lib.hid (And.intro hL hb2)
        have HB2 := Lib.hid (show Boxed w2 w.heap.size 22 (.slice none 0 0) ∧ Boxed w2 (w.heap.size + 1) 3 (.int .i64 0) ∧ Boxed w2 (w.heap.size + 2) 23 (.int .i64 0) ∧ Boxed w2 (w.heap.size + 4) 3 (.int .i64 ((pre.length : Int) + 1)) by
          have k0 : Boxed W1 w.heap.size 22 (.slice none 0 0) := by rw [← HW1.out.1]; exact Boxed.other HI.out.r0 (by omega) _
          have k1 : Boxed W1 (w.heap.size + 1) 3 (.int .i64 0) := by rw [← HW1.out.1]; exact Boxed.other HI.out.r1 (by omega) _
          have k2 : Boxed W1 (w.heap.size + 2) 23 (.int .i64 0) := by rw [← HW1.out.1]; exact Boxed.other HI.out.r2 (by omega) _
          have k4 : Boxed W1 (w.heap.size + 4) 3 (.int .i64 ((pre.length : Int) + 1)) := by rw [← HW1.out.1]; exact HI.out.num.set _
          exact ⟨(hb2.block _ k0.lt).trans k0, (hb2.block _ k1.lt).trans k1, (hb2.block _ k2.lt).trans k2, (hb2.block _ k4.lt).trans k4⟩)
        have hb2s := hb2.size
        clear hL hb2 CT CE c6 f6 l6
        obtain rfl : R = ([], pre.length + 1, 4) := by
          rw [← HP.out.1, PaI.lines HX.out.1 HX.out.2, HH.out]
          exact parse_no H2.out.1
        have HO := Lib.hid (PaI.leave (z := 4) HI.out HLO.out rfl (by have := H2.out.2; rw [← HW1.out.1] at this; exact this) HB2.out.1 HB2.out.2.1 HB2.out.2.2.1)
        have f0 : w2.frozen? ⟨w.heap.size, 0, none⟩ = false := HB2.out.1.frozen
        have f1 : w2.frozen? ⟨w.heap.size + 1, 0, none⟩ = false := HB2.out.2.1.frozen
        have f2 : w2.frozen? ⟨w.heap.size + 1 + 1, 0, none⟩ = false := HB2.out.2.2.1.frozen
        have c0 := HB2.out.1.cell
        have c1 : w2.cell? ⟨w.heap.size + 1, 0, none⟩ = some (.int .i64 0) := HB2.out.2.1.cell
        have c2' : w2.cell? ⟨w.heap.size + 1 + 1, 0, none⟩ = some (.int .i64 0) := HB2.out.2.2.1.cell
        have c4 : w2.cell? ⟨w.heap.size + 1 + 1 + 1 + 1, 0, none⟩ = some (.int .i64 ((pre.length : Int) + 1)) := HB2.out.2.2.2.cell
        have hmx : Tryd.prog.follows .mixedOrders = true := by kernel_rfl
        gi_wp2
        refine wpIn_region_any hmx (any_inRound l rfl ?_ _ _ _ _ ?_)
        · exact no_defer (by rfl)
        change wpAnyIn _ _ _ _ _ _ _ _ _ (World.drew _)
        refine wpAnyIn_ready (rs := [0, 1]) (by kernel_rfl) (by simp) ?_
        refine AllReadyIn.cons rfl (fun K hK => ?_) (AllReadyIn.cons rfl (fun K hK => ?_) AllReadyIn.nil)
        · go_simp; refine hK _ _ ?_; clear hK K
          refine wpAnyIn_ready (rs := [1]) (by kernel_rfl) (by simp) ?_
          refine AllReadyIn.cons rfl (fun K hK => ?_) AllReadyIn.nil
          go_simp; refine hK _ _ ?_; clear hK K
          refine wpAnyIn_ready (rs := [2]) (by kernel_rfl) (by simp) ?_
          refine AllReadyIn.cons rfl (fun K hK => ?_) AllReadyIn.nil
          go_simp; refine hK _ _ ?_; clear hK K
          refine wpAnyIn_ready (rs := [3]) (by kernel_rfl) (by simp) ?_
          refine AllReadyIn.cons rfl (fun K hK => ?_) AllReadyIn.nil
          go_simp; refine hK _ _ ?_; clear hK K
          refine wpAnyIn_done (by kernel_rfl) ?_ _
          gi_wp2
          exact HO.out
        · go_simp; refine hK _ _ ?_; clear hK K
          refine wpAnyIn_ready (rs := [0]) (by kernel_rfl) (by simp) ?_
          refine AllReadyIn.cons rfl (fun K hK => ?_) AllReadyIn.nil
          go_simp; refine hK _ _ ?_; clear hK K
          refine wpAnyIn_ready (rs := [2]) (by kernel_rfl) (by simp) ?_
          refine AllReadyIn.cons rfl (fun K hK => ?_) AllReadyIn.nil
          go_simp; refine hK _ _ ?_; clear hK K
          refine wpAnyIn_ready (rs := [3]) (by kernel_rfl) (by simp) ?_
          refine AllReadyIn.cons rfl (fun K hK => ?_) AllReadyIn.nil
          go_simp; refine hK _ _ ?_; clear hK K
          refine wpAnyIn_done (by kernel_rfl) ?_ _
          gi_wp2
          exact HO.out
    case done =>
      rintro xs O W hS hI hD hnD
      obtain ⟨done, A, n, c, p1, rfl, p3, p4, p5, p6⟩ := hI.par
      rw [hS] at p1
      have hsW := hI.size
      have HE := Lib.hid (PaI.fin (D := X.heap.size) hI (by omega) p1.symm rfl p3 p4 p5 hD)
      have c3 : W.cell? ⟨w.heap.size + 1 + 1 + 1, 0, none⟩ = some (.slice A done.length c) := p4.cell
      have f0 : W.frozen? ⟨w.heap.size, 0, none⟩ = false := hI.r0.frozen
      have f1 : W.frozen? ⟨w.heap.size + 1, 0, none⟩ = false := hI.r1.frozen
      have f2 : W.frozen? ⟨w.heap.size + 1 + 1, 0, none⟩ = false := hI.r2.frozen
      have c0 := hI.r0.cell
      have c1 : W.cell? ⟨w.heap.size + 1, 0, none⟩ = some (.int .i64 0) := hI.r1.cell
      have c2' : W.cell? ⟨w.heap.size + 1 + 1, 0, none⟩ = some (.int .i64 0) := hI.r2.cell
      clear hS hI hD hnD p1 p3 p4 p5 p6 hbl hPI
      gi_wp2
      obtain ⟨e1, x0, x1, x2, hO⟩ := HE.out
      refine ⟨by simp, .inl ⟨_, _, rfl, run_takeDeferred e1, ?_⟩⟩
      exact ⟨.tuple #[.slice A done.length c, .int .i64 0, .int .i64 0], by simp [results, Tryd.results8, go_sem, x0, x1, x2], hO⟩
    case stop =>
      rintro xs O W - ⟨hI, hsW⟩ hD hnD
      obtain ⟨n, z, hR, r0, r1, r2⟩ := hI.par
      have HE := Lib.hid (PaX.fin (D := X.heap.size) hI hsW (by omega) hR r0 r1 r2 hD)
      clear hI hR r0 r1 r2 hbl hPI hnD
      have HD := Lib.hid hD
      clear hD
      gi_wp2
      obtain ⟨x0, x1, x2, hO⟩ := HE.out
      refine ⟨by simp, .inl ⟨_, _, rfl, run_takeDeferred HD.out, ?_⟩⟩
      exact ⟨.tuple #[.slice none 0 0, .int .i64 (n : Nat), .int .i64 z], by simp [results, Tryd.results8, go_sem, x0, x1, x2], hO⟩
end Go.Proofs.YtjkhkohlejkdlaaDoor
