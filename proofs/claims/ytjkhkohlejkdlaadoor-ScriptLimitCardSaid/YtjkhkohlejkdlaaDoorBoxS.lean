/- A range over a function whose iterator writes captured variables from round to round, and whose body may return: what is the loop's own is told as a set of blocks. -/
import Derived.Test.YtjkhkohlejkdlaaDoorKit
import Derived.RangeFuncOwn
import Derived.RangeFuncCalls
import Derived.RangeFuncLeaves
namespace Go.Proofs.YtjkhkohlejkdlaaDoor
open Go.RowKit
set_option linter.unusedVariables false
set_option linter.unusedSimpArgs false

/-- From A to B only blocks of O have turned; O' is O and what is new. -/
structure KeepX (O O' : Nat → Prop) (A B : World) : Prop where
  size : A.heap.size ≤ B.heap.size
  old : ∀ k, k < A.heap.size → ¬ O k → B.heap[k]? = A.heap[k]?
  new : ∀ k, O' k → O k ∨ A.heap.size ≤ k
  lt : ∀ k, O' k → k < B.heap.size

/-- Nothing of O turns, and nothing below b but what is of K. -/
def BearsX {β : Type} (I : β → (Nat → Prop) → World → Prop) (K : Nat → Prop) (b : Nat) : Prop :=
  ∀ (s : β) (O : Nat → Prop) (A B : World) (row : Option Nat), I s O A → A.grownBy B row → (∀ r, row = some r → (b ≤ r ∨ K r) ∧ ¬ O r) → I s O B

section
variable {F : Fence} {n : Nat} {P : Program} {α : Type}

/-- The contract of an iterator that may be stopped, and has the blocks of K. -/
def SeqX (F : Fence) (n : Nat) (P : Program) (g : Nat) (lb : Array Value) (encs : α → Array Value) (K : Nat → Prop) (S Sp : List α → Prop) (N : List α → α → Prop) (w : World) : Prop :=
  ∀ (l : Nat) (J Jx : List α → (Nat → Prop) → World → Prop) (O : Nat → Prop) (W : World), Below w.heap.size w W → (∀ k, O k → k < w.heap.size ∧ ¬ K k) → BearsX J K W.heap.size → BearsX Jx K W.heap.size →
    (∀ (pre : List α) (O : Nat → Prop) (x : α) (W1 : World), J pre O W1 → (∀ k, O k → k < W1.heap.size) → N pre x → YieldAt F (n - 1) P l (encs x) W1 fun e W' =>
      (e = .returned (.bool true) ∧ ∃ O', J (pre ++ [x]) O' W' ∧ KeepX O O' W1 W') ∨ (e = .returned (.bool false) ∧ ∃ O', Jx (pre ++ [x]) O' W')) →
    J [] O W → CallsIn F n P g (#[.func (.yield l) #[] #[]] ++ lb) W fun e W' => (∃ v, e = .returned v) ∧ ((∃ xs O', S xs ∧ J xs O' W') ∨ (∃ xs O', Sp xs ∧ Jx xs O' W'))

/-- What a round must achieve: it ends or returns, and what it keeps. -/
def endX (I Ix : List α → (Nat → Prop) → World → Prop) (xs : List α) (O : Nat → Prop) (W : World) : Exit → Act → World → Prop
  | .normal, _, W' => ∃ O', KeepX O O' W W' ∧ I xs O' W'
  | .ret, _, W' => ∃ O', KeepX O O' W W' ∧ Ix xs O' W'
  | _, _, _ => False

theorem wpIn_rangeX {g : Operand} {ps : Array Tmp} {assign body : Code} {Q : Exit → Act → World → Prop} {a : Act} {w : World}
    (hro : F.round = none) (h1 : 1 ≤ n) {gf : Nat} {lb : Array Value} (hg : a.eval g = .func (.func gf) #[] lb) (hFg : F.fn gf) (eg : ∀ args w, (callFunc gf args).run P w = .ok (.enter gf args) w)
    {encs : α → Array Value} {K : Nat → Prop} {S Sp : List α → Prop} {N : List α → α → Prop} (hK : ∀ k, K k → k < w.heap.size) (hseq : SeqX F (n - 1) P gf lb encs K S Sp N w) (hps : ∀ x, (encs x).size = ps.size)
    (O0 : Nat → Prop) (hO : ∀ k, O0 k → k < w.heap.size ∧ ¬ K k)
    (I Ix : List α → (Nat → Prop) → World → Prop) (M : List α × α × Act → (Nat → Prop) → World → Prop) (hI : BearsX I K w.heap.size) (hIx : BearsX Ix K w.heap.size) (hM : BearsX M K w.heap.size) (h0 : I [] O0 w)
    (hassign : ∀ (l : Nat) (pre : List α) (O : Nat → Prop) (x : α) (W : World), I pre O W → (∀ k, O k → k < W.heap.size) → N pre x →
      assign.wpIn (F.inRound l) (n - 1 - 1) P (Exit.then (fun a' W' => W.grownBy W' none ∧ ∃ O1 : Nat → Prop, (∀ k, O1 k → O k ∨ W.heap.size ≤ k) ∧ (∀ k, O1 k → k < W'.heap.size) ∧ M (pre, x, a') O1 W') (fun _ _ _ => False)) { tmps := (ps.zip (encs x)).foldl (fun t (p, v) => t.setIfInBounds p v) a.tmps, defers := [] } W)
    (hbody : ∀ (l : Nat) (pre : List α) (O : Nat → Prop) (x : α) (a' : Act) (W : World), M (pre, x, a') O W → w.heap.size ≤ W.heap.size → (∀ k, O k → k < W.heap.size) → body.wpIn (F.inRound l) (n - 1 - 1) P (endX I Ix (pre ++ [x]) O W) a' W)
    (hdone : ∀ (xs : List α) (O : Nat → Prop) (W : World), S xs → I xs O W → W.heap[w.heap.size]? = some (.deferred (some [])) → ¬ O w.heap.size → Q .normal { a with defers := { target := .collected w.heap.size, args := #[] } :: a.defers } W)
    (hstop : ∀ (xs : List α) (O : Nat → Prop) (W : World), Sp xs → Ix xs O W → W.heap[w.heap.size]? = some (.deferred (some [])) → ¬ O w.heap.size → Code.ret.wpIn F n P Q { a with defers := { target := .collected w.heap.size, args := #[] } :: a.defers } W) :
    (Code.rangeFunc g ps assign body).wpIn F n P Q a w := by
  refine wpIn_rangeFunc fun fn hfn => ?_
  rw [hro]
  -- the statement's own record, in its states
  let R : LoopState → Option Code → Loop := fun st pe => { state := st, pending := pe, fn, tmps := a.tmps, params := ps, assign, body, defers := w.heap.size }
  obtain ⟨V, hV⟩ : ∃ V, (w.alloc (.deferred (some []))).alloc (.loop (R .ready none)) = V := ⟨_, rfl⟩
  have vs : V.heap.size = w.heap.size + 2 := by rw [← hV]; simp
  have vd : V.heap[w.heap.size]? = some (.deferred (some [])) := by
    rw [← hV, Below.heap_alloc _ _ _ (by simp)]
    exact World.alloc_heap_new w _
  have vl : V.heap[w.heap.size + 1]? = some (.loop (R .ready none)) := by
    have := World.alloc_heap_new (w.alloc (.deferred (some []))) (.loop (R .ready none))
    rwa [World.size_alloc, hV] at this
  have vb : Below w.heap.size w V := by
    rw [← hV]
    exact ((Below.refl _ w).alloc (Nat.le_refl _) _).alloc (by simp) _
  have vI : I [] O0 V := by
    rw [← hV]
    exact hI _ _ _ _ none (hI _ _ _ _ none h0 (World.grownBy_alloc _ _ _) (fun r e => by cases e)) (World.grownBy_alloc _ _ _) (fun r e => by cases e)
  have put : ∀ {s : List α} {O : Nat → Prop} {A : World} (o : Obj), ¬ O (w.heap.size + 1) → I s O A → I s O (A.putObj (w.heap.size + 1) o) := fun o hn h => hI _ _ _ _ (some (w.heap.size + 1)) h (grownBy_putObj' _ _ _) (fun r e => by cases e; exact ⟨.inl (by omega), hn⟩)
  have putx : ∀ {s : List α} {O : Nat → Prop} {A : World} (o : Obj), ¬ O (w.heap.size + 1) → Ix s O A → Ix s O (A.putObj (w.heap.size + 1) o) := fun o hn h => hIx _ _ _ _ (some (w.heap.size + 1)) h (grownBy_putObj' _ _ _) (fun r e => by cases e; exact ⟨.inl (by omega), hn⟩)
  have far : ∀ {r : Nat} {O : Nat → Prop}, (V.heap.size ≤ r ∨ K r) ∧ ¬ O r → ((w.heap.size ≤ r ∨ K r) ∧ ¬ O r) ∧ r ≠ w.heap.size ∧ r ≠ w.heap.size + 1 := fun {r O} h => by
    rw [vs] at h
    refine ⟨⟨?_, h.2⟩, ?_, ?_⟩
    · rcases h.1 with h | h
      · exact .inl (by omega)
      · exact .inr h
    · intro e; rcases h.1 with h | h
      · omega
      · have := hK _ h; omega
    · intro e; rcases h.1 with h | h
      · omega
      · have := hK _ h; omega
  refine ⟨w.heap.size + 1, [{ target := .collected w.heap.size, args := #[] }], V, { target := .fn (.func gf) lb, args := #[.func (.yield (w.heap.size + 1)) #[] #[]] }, V, gf, #[.func (.yield (w.heap.size + 1)) #[] #[]] ++ lb, V,
    by rw [← hV]; exact run_enterLoop_outer _ _ _ _ _, by simp only [resolve, hg]; simp [go_sem], ?_, by simp [invoke, go_sem, eg], fun _ => h1, ?_⟩
  · intro f' hf'
    simp [Target.leads] at hf'
    subst hf'
    exact hFg
  have round := hseq (w.heap.size + 1) (fun pre O W => I pre O W ∧ W.heap[w.heap.size + 1]? = some (.loop (R .ready none)) ∧ W.heap[w.heap.size]? = some (.deferred (some [])) ∧ ¬ O (w.heap.size + 1) ∧ ¬ O w.heap.size)
    (fun pre O W => Ix pre O W ∧ W.heap[w.heap.size + 1]? = some (.loop (R .done (some .ret))) ∧ W.heap[w.heap.size]? = some (.deferred (some [])) ∧ ¬ O (w.heap.size + 1) ∧ ¬ O w.heap.size) O0 V vb hO
    (fun s O A B row ⟨i1, i2, i3, i4, i5⟩ hg' hr => by
      have l1 := (Array.getElem?_eq_some_iff.1 i2).1
      exact ⟨hI _ _ _ _ _ i1 hg' (fun r e => (far (hr r e)).1), (hg'.block _ l1 (fun e => (far (hr _ e.symm)).2.2 rfl)).trans i2, (hg'.block _ (by omega) (fun e => (far (hr _ e.symm)).2.1 rfl)).trans i3, i4, i5⟩)
    (fun s O A B row ⟨i1, i2, i3, i4, i5⟩ hg' hr => by
      have l1 := (Array.getElem?_eq_some_iff.1 i2).1
      exact ⟨hIx _ _ _ _ _ i1 hg' (fun r e => (far (hr r e)).1), (hg'.block _ l1 (fun e => (far (hr _ e.symm)).2.2 rfl)).trans i2, (hg'.block _ (by omega) (fun e => (far (hr _ e.symm)).2.1 rfl)).trans i3, i4, i5⟩)
    (fun pre O x W ⟨i1, i2, i3, i4, i5⟩ hlt hlen => by
      have l1 := (Array.getElem?_eq_some_iff.1 i2).1
      have hy := run_yield (P := P) (args := encs x) i2 (by exact hps x)
      refine ⟨fn, _, assign, body, hy, roundIn_of_wpIn hfn (wpIn_mono (hassign _ pre O x W i1 hlt hlen) ?_)⟩
      rintro e a' W' hp
      cases e with
      | normal =>
        obtain ⟨kp, O1, h1n, h1l, m⟩ := hp
        have j4 : ¬ O1 (w.heap.size + 1) := fun h => by rcases h1n _ h with h | h; exact i4 h; omega
        have j5 : ¬ O1 w.heap.size := fun h => by rcases h1n _ h with h | h; exact i5 h; omega
        have q2 : W'.heap[w.heap.size + 1]? = some (.loop (R .ready none)) := (kp.block _ l1 (by simp)).trans i2
        have q3 : W'.heap[w.heap.size]? = some (.deferred (some [])) := (kp.block _ (by omega) (by simp)).trans i3
        have l2 := (Array.getElem?_eq_some_iff.1 q2).1
        refine ⟨_, run_beginRound q2 rfl, ?_⟩
        obtain ⟨Z, hZ⟩ : ∃ Z, W'.putObj (w.heap.size + 1) (.loop (R .busy none)) = Z := ⟨_, rfl⟩
        have zs : Z.heap.size = W'.heap.size := by rw [← hZ]; simp
        have zl : Z.heap[w.heap.size + 1]? = some (.loop (R .busy none)) := by rw [← hZ]; exact World.putObj_heap_same l2
        have zo : ∀ k, k ≠ w.heap.size + 1 → Z.heap[k]? = W'.heap[k]? := fun k hk => by rw [← hZ]; exact World.putObj_heap_other hk
        have zM : M (pre, x, a') O1 Z := by rw [← hZ]; exact hM (pre, x, a') O1 W' _ (some (w.heap.size + 1)) m (grownBy_putObj' _ _ _) (fun r e => by cases e; exact ⟨.inl (by omega), j4⟩)
        show Code.wpIn (F.inRound _) _ P body _ a' (W'.putObj (w.heap.size + 1) (.loop (R .busy none)))
        rw [hZ]
        have ks := kp.size
        refine wpIn_mono (hbody _ pre O1 x a' Z zM (by omega) (fun k hk => by have := h1l k hk; omega)) ?_
        rintro e a2 Y hp2
        cases e with
        | normal =>
          obtain ⟨O', kq, iy⟩ := hp2
          have y2 : Y.heap[w.heap.size + 1]? = some (.loop (R .busy none)) := (kq.old _ (by omega) j4).trans zl
          have ly := (Array.getElem?_eq_some_iff.1 y2).1
          have n1 : ¬ O' (w.heap.size + 1) := fun h => by rcases kq.new _ h with h | h; exact j4 h; omega
          have n2 : ¬ O' w.heap.size := fun h => by rcases kq.new _ h with h | h; exact j5 h; omega
          refine ⟨_, _, run_endRound none y2, .inl ⟨rfl, O', ⟨put _ n1 iy, World.putObj_heap_same ly, (World.putObj_heap_other (by omega)).trans ((kq.old _ (by omega) j5).trans ((zo _ (by omega)).trans q3)), n1, n2⟩, ?_, fun k hk ho => ?_, fun k hk => ?_, fun k hk => ?_⟩⟩
          · have := kq.size; simp; omega
          · by_cases e : k = w.heap.size + 1
            · subst e
              rw [i2]
              exact World.putObj_heap_same ly
            · exact (World.putObj_heap_other e).trans ((kq.old k (by omega) (fun h => by rcases h1n k h with h | h; exact ho h; omega)).trans ((zo k e).trans (kp.block k hk (by simp))))
          · rcases kq.new k hk with h | h
            · rcases h1n k h with h | h
              · exact .inl h
              · exact .inr h
            · exact .inr (by omega)
          · have := kq.lt k hk; simpa using this
        | ret =>
          obtain ⟨O', kq, iy⟩ := hp2
          have y2 : Y.heap[w.heap.size + 1]? = some (.loop (R .busy none)) := (kq.old _ (by omega) j4).trans zl
          have ly := (Array.getElem?_eq_some_iff.1 y2).1
          have n1 : ¬ O' (w.heap.size + 1) := fun h => by rcases kq.new _ h with h | h; exact j4 h; omega
          have n2 : ¬ O' w.heap.size := fun h => by rcases kq.new _ h with h | h; exact j5 h; omega
          exact ⟨_, _, run_endRound (some .ret) y2, .inr ⟨rfl, O', putx _ n1 iy, World.putObj_heap_same ly, (World.putObj_heap_other (by omega)).trans ((kq.old _ (by omega) j5).trans ((zo _ (by omega)).trans q3)), n1, n2⟩⟩
        | _ => exact hp2.elim
      | _ => exact hp.elim)
    ⟨vI, vl, vd, fun h => by have := (hO _ h).1; omega, fun h => by have := (hO _ h).1; omega⟩
  refine round.mono ?_
  rintro e Y ⟨⟨v, rfl⟩, ⟨xs, O', hS, i1, i2, i3, i4, i5⟩ | ⟨xs, O', hS, i1, i2, i3, i4, i5⟩⟩
  · exact ⟨none, _, run_endLoop (P := P) i2 (by simp [R]), hdone xs O' _ hS (put _ i4 i1) ((World.putObj_heap_other (by omega)).trans i3) i5⟩
  · exact ⟨some .ret, _, run_endLoop (P := P) i2 (by simp [R]), hstop xs O' _ hS (putx _ i4 i1) ((World.putObj_heap_other (by omega)).trans i3) i5⟩
end
end Go.Proofs.YtjkhkohlejkdlaaDoor
