/- trie: Build, between its steps. -/
import Derived.Test.YtpbdamjpjpchiaaTrU
namespace Go.Proofs.Ytpbdamjpjpchiaa
open Go.RowKit Go.Maps
set_option linter.unusedVariables false
set_option linter.unusedSimpArgs false

theorem wp_pushN {P : Program} {w0 w : World} {cs : Array Value} {e' : TypeId} {o : Oper} {a : Act} {K : Act → World → Prop} {Q : Exit → Act → World → Prop} {size bytes base n k : Nat} {t e : TypeId} {v : Value} {xs : List Value} {s x : Operand}
    (E : Elt P t e size bytes) (hown : w0.ownsRow base e size v n xs) (hbase : base ≤ w0.heap.size) (hgd : o.guard = none) (ho : o.op = .call { callee := .builtin .append, args := #[s, x], argTypes := #[t, t] })
    (hs : a.eval s = v) (hx : a.eval x = .slice (some ⟨k, 0, none⟩) 1 1) (hk : k = w0.heap.size) (hw : w = (w0.alloc (.cells cs e')).drew) (hcs : cs.size = size) (h1 : cs.toList.all Value.oneCell' = true) (h63 : n + 1 ≤ maxLen) (hbytes : (n + 1) * bytes ≤ 140737488355328)
    (h : ∀ A c w', Pushed w0 w' base e size v (n + 1) (xs ++ cs.toList) A c → K (a.put o.dst (.slice A (n + 1) c)) w') : o.wp P a w K Q := by
  have := step_pushN (ops := #[]) (Ep := False) (Q := Q) E hown hbase hgd ho hs hx hk hw hcs h1 h63 hbytes h
  rwa [if_pos (by simp [Region.wanted, hgd])] at this

/-- The box of the trie's address, and that of a block's number. -/
def S2 (bx tb ib i : Nat) (X : World) : Prop := Boxed X bx 24 (.pointer (some ⟨tb, 0, none⟩)) ∧ Boxed X ib 21 (.int .i32 i)
section
variable {bx tb ib i : Nat} {X Y : World}
theorem S2.drew (h : S2 bx tb ib i X) : S2 bx tb ib i X.drew := h
theorem S2.alloc (h : S2 bx tb ib i X) (o : Obj) : S2 bx tb ib i (X.alloc o) := ⟨Boxed.alloc h.1 o, Boxed.alloc h.2 o⟩
theorem S2.kept (h : S2 bx tb ib i X) {row : Option Nat} (hg : X.grownBy Y row) (h1 : some bx ≠ row) (h2 : some ib ≠ row) : S2 bx tb ib i Y := ⟨Boxed.kept h.1 hg h1, Boxed.kept h.2 hg h2⟩
theorem S2.set (h : S2 bx tb ib i X) {g j : Nat} (h1 : bx ≠ g) (h2 : ib ≠ g) (u : Value) : S2 bx tb ib i (X.setCell ⟨g, j, none⟩ u) :=
  h.kept (grow_set X g j u) (fun e => by injection e with e; exact h1 e) (fun e => by injection e with e; exact h2 e)
theorem S2.same (h : S2 bx tb ib i X) (h1 : Y.heap[bx]? = X.heap[bx]?) (h2 : Y.heap[ib]? = X.heap[ib]?) : S2 bx tb ib i Y := ⟨h1.trans h.1, h2.trans h.2⟩
end

section
variable {base tb mb : Nat} {m : Int} {A A2 : Option Addr} {n c n2 c2 i : Nat} {Bs : List (List Int)} {Ix : List Nat} {l : List Int → Option Nat} {W w3 : World}
/-- One number more. -/
theorem Tr.snoc {A' : Option Addr} {c' : Nat} (h : Tr base tb mb m A n c Bs A2 n2 c2 Ix l W) (hp : Pushed W w3 base 21 1 (.slice A2 n2 c2) (n2 + 1) (flatL encN Ix ++ (#[Value.int .i32 (i : Int)] : Array Value).toList) A' c') :
    Tr base tb mb m A n c Bs A' (n2 + 1) c' (Ix ++ [i]) l (w3.setCell ⟨tb, 2, none⟩ (.slice A' (n2 + 1) c')) ∧ Turn (Ow tb mb A n c A2 n2 c2) W (w3.setCell ⟨tb, 2, none⟩ (.slice A' (n2 + 1) c')) ∧ ∀ k, Ow tb mb A n c A' (n2 + 1) c' k → Ow tb mb A n c A2 n2 c2 k ∨ W.heap.size ≤ k := by
  have hg := hp.grown
  have hn1 : ∀ g, (Value.slice A' (n2 + 1) c').ownBlock = some g → (Value.slice A2 n2 c2).ownBlock = some g ∨ W.heap.size ≤ g := fun g e => by
    rcases hp.at_ with e1 | ⟨q, e1, hq⟩
    · exact .inl (e1 ▸ e)
    · rw [e1] at e
      injection e with e
      subst e
      exact .inr hq
  have hcl := h.cel.1
  have hnt : ∀ g, (Value.slice A' (n2 + 1) c').ownBlock = some g → g ≠ tb := fun g e => by
    rcases hn1 g e with e1 | e1
    · exact h.n2' g e1
    · omega
  have b3 := h.cel.grown hg (fun e => h.n2' tb e.symm rfl)
  have b4 := b3.set_ 2 (by simp) (.slice A' (n2 + 1) c')
  refine ⟨⟨by simpa using b4, ?_, ?_, ?_, h.ok, h.wf, h.len, h.t0, h.m0, h.n1, hnt⟩, ⟨hg.os, hg.tape, hg.output, by simpa using hg.size, fun k hk ho => ?_⟩, ?_⟩
  · have := keptRow h.bl hg (fun g e e' => h.n12 g e e')
    exact keptRow this (grow_set w3 tb 2 (.slice A' (n2 + 1) c')) (fun g e e' => by injection e' with e'; exact h.n1 g e e'.symm)
  · have := keptRow hp.own (grow_set w3 tb 2 (.slice A' (n2 + 1) c')) (fun g e e' => by injection e' with e'; exact hnt g e e'.symm)
    rw [flatL_snoc]
    simpa [encN] using this
  · have := h.kn.kept hg (fun e => h.m2 mb e.symm rfl)
    have := this.kept (grow_set w3 tb 2 (.slice A' (n2 + 1) c')) (fun e => by injection e with e; exact h.mt e)
    exact this
  · rw [Below.heap_setCell _ _ _ _ (by show k ≠ tb; exact fun e => ho (.inl e))]
    exact hg.block k hk (fun e => ho (.inr (.inr (.inr e.symm))))
  · rintro k (hk | hk | hk | hk)
    · exact .inl (.inl hk)
    · exact .inl (.inr (.inl hk))
    · exact .inl (.inr (.inr (.inl hk)))
    · rcases hn1 k hk with h' | h'
      · exact .inl (.inr (.inr (.inr h')))
      · exact .inr h'
end

/-- Between the rounds that tell where a block is: X is where they began. -/
def RgI (X : World) (base tb mb : Nat) (m : Int) (A : Option Addr) (n c : Nat) (Bs : List (List Int)) (Ix : List Nat) (l : List Int → Option Nat) (bx ib i : Nat) (O0 : Nat → Prop) (pre : List Nat) (O : Nat → Prop) (W : World) : Prop :=
  ∃ A2 n2 c2, Tr base tb mb m A n c Bs A2 n2 c2 (Ix ++ List.replicate pre.length i) l W ∧ S2 bx tb ib i W ∧ (∀ k, O k ↔ Ow tb mb A n c A2 n2 c2 k) ∧ (∀ k, O k → O0 k ∨ X.heap.size ≤ k) ∧ Turn O0 X W
/-- .. with the loop's number laid. -/
def RgM (X : World) (base tb mb : Nat) (m : Int) (A : Option Addr) (n c : Nat) (Bs : List (List Int)) (Ix : List Nat) (l : List Int → Option Nat) (bx ib i : Nat) (O0 : Nat → Prop) (N : Nat) (act : Nat → Act) (x : List Nat × Nat × Act) (O : Nat → Prop) (W : World) : Prop :=
  RgI X base tb mb m A n c Bs Ix l bx ib i O0 x.1 O W ∧ upTo N x.1 x.2.1 ∧ x.2.2 = act x.2.1
section
variable {X : World} {base tb mb : Nat} {m : Int} {A : Option Addr} {n c : Nat} {Bs : List (List Int)} {Ix : List Nat} {l : List Int → Option Nat} {bx ib i : Nat} {O0 : Nat → Prop} {N : Nat} {act : Nat → Act}
theorem RgI.bears (h1 : bx < X.heap.size) (h2 : ib < X.heap.size) : BearsO (RgI X base tb mb m A n c Bs Ix l bx ib i O0) X.heap.size := by
  rintro pre O V B row ⟨A2, n2, c2, t, s, o, o2, u⟩ hg hr
  refine ⟨A2, n2, c2, t.kept hg.size fun k hk => hg.block k (t.low k hk).2 fun e => (hr k e.symm).2 ((o k).2 hk), s.kept hg (fun e => by have := (hr _ e.symm).1; omega) (fun e => by have := (hr _ e.symm).1; omega), o, o2, ⟨hg.os.trans u.os, hg.tape.trans u.tape, hg.output.trans u.output, Nat.le_trans u.size hg.size, fun k hk ho => (hg.block k (Nat.lt_of_lt_of_le hk u.size) fun e => by have := (hr k e.symm).1; omega).trans (u.old k hk ho)⟩⟩
theorem RgM.bears (h1 : bx < X.heap.size) (h2 : ib < X.heap.size) : BearsO (RgM X base tb mb m A n c Bs Ix l bx ib i O0 N act) X.heap.size := by
  rintro ⟨pre, x, a'⟩ O V B row ⟨h, h3, h4⟩ hg hr
  exact ⟨RgI.bears h1 h2 _ _ _ _ _ h hg hr, h3, h4⟩
/-- A round's end. -/
theorem RgI.step {W W' : World} {pre : List Nat} {O : Nat → Prop} {x : Nat} {A2 A' : Option Addr} {n2 c2 c' : Nat} (t : Tr base tb mb m A n c Bs A2 n2 c2 (Ix ++ List.replicate pre.length i) l W) (o : ∀ k, O k ↔ Ow tb mb A n c A2 n2 c2 k) (o2 : ∀ k, O k → O0 k ∨ X.heap.size ≤ k) (u : Turn O0 X W)
    (h : Tr base tb mb m A n c Bs A' (n2 + 1) c' (Ix ++ List.replicate pre.length i ++ [i]) l W' ∧ Turn (Ow tb mb A n c A2 n2 c2) W W' ∧ ∀ k, Ow tb mb A n c A' (n2 + 1) c' k → Ow tb mb A n c A2 n2 c2 k ∨ W.heap.size ≤ k) (hs : S2 bx tb ib i W') :
    ∃ O', KeepO O O' W W' ∧ RgI X base tb mb m A n c Bs Ix l bx ib i O0 (pre ++ [x]) O' W' := by
  obtain ⟨t', v, e⟩ := h
  refine ⟨Ow tb mb A n c A' (n2 + 1) c', ⟨v.size, fun k hk ho => v.old k hk fun h => ho ((o k).2 h), fun k hk => (e k hk).imp (fun h => (o k).2 h) id, fun k hk => (t'.low k hk).2⟩, A', n2 + 1, c', ?_, hs, fun k => Iff.rfl, fun k hk => ?_, ?_⟩
  · rw [List.length_append, List.length_singleton, List.replicate_succ', ← List.append_assoc]
    exact t'
  · rcases e k hk with h | h
    · exact o2 k ((o k).2 h)
    · exact .inr (Nat.le_trans u.size h)
  · refine ⟨v.os.trans u.os, v.tape.trans u.tape, v.output.trans u.output, Nat.le_trans u.size v.size, fun k hk ho => (v.old k (Nat.lt_of_lt_of_le hk u.size) fun h => ?_).trans (u.old k hk ho)⟩
    rcases o2 k ((o k).2 h) with h' | h'
    · exact ho h'
    · omega
end
end Go.Proofs.Ytpbdamjpjpchiaa
