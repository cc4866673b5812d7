/- A region that draws its order, in a round of a range over a function, in a class of worlds. -/
import Derived.Test.YtggapcfjcdafpaaGreatGb01
import Derived.RangeFuncOwn
import Derived.RangeFuncCalls
import Derived.RangeFuncLeaves
import Derived.Test.YtggapcfjcdafpaaGreatGb03
import Derived.RangeFuncBox
import Derived.Shelf.Abstract
import Derived.Shelf.RegionOpen
import Derived.OwnWalkIn
import Derived.TacticsInMore
import Derived.LoopNIn
import Derived.LoopIn
import Derived.IntWalk
import Derived.Sort.QuietThIn
import Derived.Sort.QuietLawsIn
namespace Go.Proofs.YtggapcfjcdafpaaGreat
open Go.RowKit
set_option linter.unusedVariables false
set_option linter.unusedSimpArgs false

/-- From A to B only blocks of O have turned; O' is O and what is new. -/
structure KeepO (O O' : Nat → Prop) (A B : World) : Prop where
  size : A.heap.size ≤ B.heap.size
  old : ∀ k, k < A.heap.size → ¬ O k → B.heap[k]? = A.heap[k]?
  new : ∀ k, O' k → O k ∨ A.heap.size ≤ k
  lt : ∀ k, O' k → k < B.heap.size

/-- Nothing of O turns, and nothing below b. -/
def BearsO {β : Type} (I : β → (Nat → Prop) → World → Prop) (b : Nat) : Prop :=
  ∀ (s : β) (O : Nat → Prop) (A B : World) (row : Option Nat), I s O A → A.grownBy B row → (∀ r, row = some r → b ≤ r ∧ ¬ O r) → I s O B

section
variable {F : Fence} {n : Nat} {P : Program} {α : Type}

/-- The contract of an iterator that never stops by itself, and reads the blocks of K. -/
def SeqOwn (F : Fence) (n : Nat) (P : Program) (g : Nat) (lb : Array Value) (encs : α → Array Value) (K : Nat → Prop) (S : List α → Prop) (N : List α → α → Prop) (w : World) : Prop :=
  ∀ (l : Nat) (J : List α → (Nat → Prop) → World → Prop) (O : Nat → Prop) (W : World), Below w.heap.size w W → (∀ k, O k → k < w.heap.size ∧ ¬ K k) → BearsO J W.heap.size →
    (∀ (pre : List α) (O : Nat → Prop) (x : α) (W1 : World), J pre O W1 → (∀ k, O k → k < W1.heap.size) → N pre x → YieldAt F (n - 1) P l (encs x) W1 fun e W' =>
      e = .returned (.bool true) ∧ ∃ O', J (pre ++ [x]) O' W' ∧ KeepO O O' W1 W') →
    J [] O W → CallsIn F n P g (#[.func (.yield l) #[] #[]] ++ lb) W fun e W' => (∃ v, e = .returned v) ∧ ∃ xs O', S xs ∧ J xs O' W'

/-- What a round must achieve: it ends, and what it keeps. -/
def endPost (I : List α → (Nat → Prop) → World → Prop) (xs : List α) (O : Nat → Prop) (W : World) : Exit → Act → World → Prop
  | .normal, _, W' => ∃ O', KeepO O O' W W' ∧ I xs O' W'
  | _, _, _ => False

theorem wpIn_rangeBox {g : Operand} {ps : Array Tmp} {assign body : Code} {Q : Exit → Act → World → Prop} {a : Act} {w : World}
    (hro : F.round = none) (h1 : 1 ≤ n) {gf : Nat} {lb : Array Value} (hg : a.eval g = .func (.func gf) #[] lb) (hFg : F.fn gf) (eg : ∀ args w, (callFunc gf args).run P w = .ok (.enter gf args) w)
    {encs : α → Array Value} {K : Nat → Prop} {S : List α → Prop} {N : List α → α → Prop} (hseq : SeqOwn F (n - 1) P gf lb encs K S N w) (hps : ∀ x, (encs x).size = ps.size)
    (O0 : Nat → Prop) (hO : ∀ k, O0 k → k < w.heap.size ∧ ¬ K k)
    (I : List α → (Nat → Prop) → World → Prop) (M : List α × α × Act → (Nat → Prop) → World → Prop) (hI : BearsO I w.heap.size) (hM : BearsO M w.heap.size) (h0 : I [] O0 w)
    (hassign : ∀ (l : Nat) (pre : List α) (O : Nat → Prop) (x : α) (W : World), I pre O W → (∀ k, O k → k < W.heap.size) → N pre x →
      assign.wpIn (F.inRound l) (n - 1 - 1) P (Exit.then (fun a' W' => W.grownBy W' none ∧ ∃ O1 : Nat → Prop, (∀ k, O1 k → O k ∨ W.heap.size ≤ k) ∧ (∀ k, O1 k → k < W'.heap.size) ∧ M (pre, x, a') O1 W') (fun _ _ _ => False)) { tmps := (ps.zip (encs x)).foldl (fun t (p, v) => t.setIfInBounds p v) a.tmps, defers := [] } W)
    (hbody : ∀ (l : Nat) (pre : List α) (O : Nat → Prop) (x : α) (a' : Act) (W : World), M (pre, x, a') O W → w.heap.size ≤ W.heap.size → (∀ k, O k → k < W.heap.size) → body.wpIn (F.inRound l) (n - 1 - 1) P (endPost I (pre ++ [x]) O W) a' W)
    (hdone : ∀ (xs : List α) (O : Nat → Prop) (W : World), S xs → I xs O W → W.heap[w.heap.size]? = some (.deferred (some [])) → ¬ O w.heap.size → Q .normal { a with defers := { target := .collected w.heap.size, args := #[] } :: a.defers } W) :
    (Code.rangeFunc g ps assign body).wpIn F n P Q a w := by
  refine wpIn_rangeFunc fun fn hfn => ?_
  rw [hro]
  -- the statement's own record, in its states
  let R : LoopState → Loop := fun st => { state := st, pending := none, fn, tmps := a.tmps, params := ps, assign, body, defers := w.heap.size }
  obtain ⟨V, hV⟩ : ∃ V, (w.alloc (.deferred (some []))).alloc (.loop (R .ready)) = V := ⟨_, rfl⟩
  have vs : V.heap.size = w.heap.size + 2 := by rw [← hV]; simp
  have vd : V.heap[w.heap.size]? = some (.deferred (some [])) := by
    rw [← hV, Below.heap_alloc _ _ _ (by simp)]
    exact World.alloc_heap_new w _
  have vl : V.heap[w.heap.size + 1]? = some (.loop (R .ready)) := by
    have := World.alloc_heap_new (w.alloc (.deferred (some []))) (.loop (R .ready))
    rwa [World.size_alloc, hV] at this
  have vb : Below w.heap.size w V := by
    rw [← hV]
    exact ((Below.refl _ w).alloc (Nat.le_refl _) _).alloc (by simp) _
  have vI : I [] O0 V := by
    rw [← hV]
    exact hI _ _ _ _ none (hI _ _ _ _ none h0 (World.grownBy_alloc _ _ _) (fun r e => by cases e)) (World.grownBy_alloc _ _ _) (fun r e => by cases e)
  have put : ∀ {s : List α} {O : Nat → Prop} {A : World} (o : Obj), ¬ O (w.heap.size + 1) → I s O A → I s O (A.putObj (w.heap.size + 1) o) := fun o hn h => hI _ _ _ _ (some (w.heap.size + 1)) h (grownBy_putObj' _ _ _) (fun r e => by cases e; exact ⟨by omega, hn⟩)
  refine ⟨w.heap.size + 1, [{ target := .collected w.heap.size, args := #[] }], V, { target := .fn (.func gf) lb, args := #[.func (.yield (w.heap.size + 1)) #[] #[]] }, V, gf, #[.func (.yield (w.heap.size + 1)) #[] #[]] ++ lb, V,
    by rw [← hV]; exact run_enterLoop_outer _ _ _ _ _, by simp only [resolve, hg]; simp [go_sem], ?_, by simp [invoke, go_sem, eg], fun _ => h1, ?_⟩
  · intro f' hf'
    simp [Target.leads] at hf'
    subst hf'
    exact hFg
  have round := hseq (w.heap.size + 1) (fun pre O W => I pre O W ∧ W.heap[w.heap.size + 1]? = some (.loop (R .ready)) ∧ W.heap[w.heap.size]? = some (.deferred (some [])) ∧ ¬ O (w.heap.size + 1) ∧ ¬ O w.heap.size) O0 V vb hO
    (fun s O A B row ⟨i1, i2, i3, i4, i5⟩ hg' hr => by
      have l1 := (Array.getElem?_eq_some_iff.1 i2).1
      rw [vs] at hr
      exact ⟨hI _ _ _ _ _ i1 hg' (fun r e => by have := hr r e; exact ⟨by omega, this.2⟩), (hg'.block _ l1 (fun e => by have := hr _ e.symm; omega)).trans i2, (hg'.block _ (by omega) (fun e => by have := hr _ e.symm; omega)).trans i3, i4, i5⟩)
    (fun pre O x W ⟨i1, i2, i3, i4, i5⟩ hlt hlen => by
      have l1 := (Array.getElem?_eq_some_iff.1 i2).1
      have hy := run_yield (P := P) (args := encs x) i2 (by exact hps x)
      refine ⟨fn, _, assign, body, hy, roundIn_of_wpIn hfn (wpIn_mono (hassign _ pre O x W i1 hlt hlen) ?_)⟩
      rintro e a' W' hp
      cases e with
      | normal =>
        obtain ⟨kp, O1, h1n, h1l, m⟩ := hp
        have j4 : ¬ O1 (w.heap.size + 1) := fun h => by rcases h1n _ h with h | h; exact i4 h; omega
        have j5 : ¬ O1 w.heap.size := fun h => by rcases h1n _ h with h | h; exact i5 h; omega
        have q2 : W'.heap[w.heap.size + 1]? = some (.loop (R .ready)) := (kp.block _ l1 (by simp)).trans i2
        have q3 : W'.heap[w.heap.size]? = some (.deferred (some [])) := (kp.block _ (by omega) (by simp)).trans i3
        have l2 := (Array.getElem?_eq_some_iff.1 q2).1
        refine ⟨_, run_beginRound q2 rfl, ?_⟩
        obtain ⟨Z, hZ⟩ : ∃ Z, W'.putObj (w.heap.size + 1) (.loop (R .busy)) = Z := ⟨_, rfl⟩
        have zs : Z.heap.size = W'.heap.size := by rw [← hZ]; simp
        have zl : Z.heap[w.heap.size + 1]? = some (.loop (R .busy)) := by rw [← hZ]; exact World.putObj_heap_same l2
        have zo : ∀ k, k ≠ w.heap.size + 1 → Z.heap[k]? = W'.heap[k]? := fun k hk => by rw [← hZ]; exact World.putObj_heap_other hk
        have zM : M (pre, x, a') O1 Z := by rw [← hZ]; exact hM (pre, x, a') O1 W' _ (some (w.heap.size + 1)) m (grownBy_putObj' _ _ _) (fun r e => by cases e; exact ⟨by omega, j4⟩)
        show Code.wpIn (F.inRound _) _ P body _ a' (W'.putObj (w.heap.size + 1) (.loop (R .busy)))
        rw [hZ]
        have ks := kp.size
        refine wpIn_mono (hbody _ pre O1 x a' Z zM (by omega) (fun k hk => by have := h1l k hk; omega)) ?_
        rintro e a2 Y hp2
        cases e with
        | normal =>
          obtain ⟨O', kq, iy⟩ := hp2
          have y2 : Y.heap[w.heap.size + 1]? = some (.loop (R .busy)) := (kq.old _ (by omega) j4).trans zl
          have ly := (Array.getElem?_eq_some_iff.1 y2).1
          have n1 : ¬ O' (w.heap.size + 1) := fun h => by rcases kq.new _ h with h | h; exact j4 h; omega
          have n2 : ¬ O' w.heap.size := fun h => by rcases kq.new _ h with h | h; exact j5 h; omega
          refine ⟨_, _, run_endRound none y2, rfl, O', ⟨put _ n1 iy, World.putObj_heap_same ly, (World.putObj_heap_other (by omega)).trans ((kq.old _ (by omega) j5).trans ((zo _ (by omega)).trans q3)), n1, n2⟩, ?_, fun k hk ho => ?_, fun k hk => ?_, fun k hk => ?_⟩
          · have := kq.size; simp; omega
          · by_cases e : k = w.heap.size + 1
            · subst e
              rw [i2]
              exact World.putObj_heap_same ly
            · exact (World.putObj_heap_other e).trans ((kq.old k (by omega) (fun h => by rcases h1n k h with h | h; exact ho h; omega)).trans ((zo k e).trans (kp.block k hk (by simp))))
          · rcases kq.new k hk with h | h
            · rcases h1n k h with h | h
              · exact .inl h
              · exact .inr h
            · exact .inr (by omega)
          · have := kq.lt k hk; simpa using this
        | _ => exact hp2.elim
      | _ => exact hp.elim)
    ⟨vI, vl, vd, fun h => by have := (hO _ h).1; omega, fun h => by have := (hO _ h).1; omega⟩
  refine round.mono ?_
  rintro e Y ⟨⟨v, rfl⟩, xs, O', hS, i1, i2, i3, i4, i5⟩
  exact ⟨none, _, run_endLoop (P := P) i2 (by simp [R]), hdone xs O' _ hS (put _ i4 i1) ((World.putObj_heap_other (by omega)).trans i3) i5⟩
end
end Go.Proofs.YtggapcfjcdafpaaGreat

namespace Go.Proofs.YtggapcfjcdafpaaGreat
open Go.RowKit
set_option linter.unusedVariables false
set_option linter.unusedSimpArgs false
attribute [local go_sem] Oper.semAt_some

/-- The number of a round. -/
abbrev encNum (a : Int) (k : Nat) : Array Value := #[.int .i64 (a + k)]
/-- The rounds come in their order. -/
def upTo (N : Nat) (pre : List Nat) (x : Nat) : Prop := pre = List.range x ∧ x < N
/-- The iterator's two boxes. -/
def two (b1 b2 : Nat) (k : Nat) : Prop := k = b1 ∨ k = b2

/-- What holds at the head of the iterator's round. -/
structure NuI (J : List Nat → (Nat → Prop) → World → Prop) (b1 b2 : Nat) (a : Int) (N : Nat) (k : Nat) (O : Nat → Prop) (X : World) : Prop where
  j : J (List.range k) O X
  o : ∀ i, O i → i < X.heap.size ∧ ¬ two b1 b2 i
  lt1 : b1 < X.heap.size
  lt2 : b2 < X.heap.size
  c1 : X.cell? ⟨b1, 0, none⟩ = some (.int .i64 a)
  c2 : X.cell? ⟨b2, 0, none⟩ = some (.int .i64 (a + N))
theorem NuI.back {J : List Nat → (Nat → Prop) → World → Prop} {b1 b2 : Nat} {a : Int} {N k : Nat} {O O' : Nat → Prop} {X Y : World} (h : NuI J b1 b2 a N k O X) (hj : J (List.range (k + 1)) O' Y) (hk : KeepO O O' X Y) : NuI J b1 b2 a N (k + 1) O' Y := by
  have n1 : ¬ O b1 := fun e => (h.o _ e).2 (.inl rfl)
  have n2 : ¬ O b2 := fun e => (h.o _ e).2 (.inr rfl)
  refine ⟨hj, fun i hi => ⟨hk.lt i hi, ?_⟩, Nat.lt_of_lt_of_le h.lt1 hk.size, Nat.lt_of_lt_of_le h.lt2 hk.size, (World.cell?_of_block (a := ⟨b1, 0, none⟩) (hk.old _ h.lt1 n1)).trans h.c1, (World.cell?_of_block (a := ⟨b2, 0, none⟩) (hk.old _ h.lt2 n2)).trans h.c2⟩
  rcases hk.new i hi with h' | h'
  · exact (h.o i h').2
  · rintro (rfl | rfl)
    · have := h.lt1; omega
    · have := h.lt2; omega

set_option maxRecDepth 100000 in
set_option maxHeartbeats 4000000 in
theorem numbers1_in (F : Fence) (n : Nat) (hF : F.fn 102) (hro : F.round = none) (hn : 1 ≤ n) (l b1 b2 : Nat) (a : Int) (N : Nat) (ha : -9000000000000000000 ≤ a) (hN : a + N ≤ 9000000000000000000)
    (J : List Nat → (Nat → Prop) → World → Prop) (O : Nat → Prop) (W : World) (h0 : NuI J b1 b2 a N 0 O W)
    (hY : ∀ (pre : List Nat) (O : Nat → Prop) (x : Nat) (W1 : World), J pre O W1 → (∀ k, O k → k < W1.heap.size) → upTo N pre x → YieldAt F (n - 1) Tryz.prog l (encNum a x) W1 fun e W' =>
      e = .returned (.bool true) ∧ ∃ O', J (pre ++ [x]) O' W' ∧ KeepO O O' W1 W') :
    CallsIn F n Tryz.prog 102 #[.func (.yield l) #[] #[], .pointer (some ⟨b1, 0, none⟩), .pointer (some ⟨b2, 0, none⟩)] W fun e W' => (∃ v, e = .returned v) ∧ ∃ O', J (List.range N) O' W' := by
  refine callsIn_of_wp Tryz.func102 rfl hF ?_ hro
  simp only [Tryz.ntmps102, List.size_toArray, List.length_cons, List.length_nil, Nat.reduceAdd, Nat.reduceSub, Array.replicate_succ, Array.replicate_zero, List.push_toArray, List.append_toArray, List.nil_append, List.cons_append]
  have H0 := Lib.hid h0
  obtain ⟨_, _, l1, l2, c1, c2⟩ := h0
  gi_wp2
  gi_loopw [4] (fun i wr => ∃ (k : Nat) (O : Nat → Prop), k ≤ N ∧ i = .int .i64 (a + (k : Int)) ∧ Hid (NuI J b1 b2 a N k O wr)) (fun i _ => (a + N - intOf i).toNat)
  case atStart => exact ⟨0, O, Nat.zero_le _, by simp, H0.out⟩
  case round =>
    obtain ⟨k, O, hk, rfl, HI⟩ := hrel
    have g1 := HI.out.lt1
    have g2 := HI.out.lt2
    have e1 := HI.out.c1
    have e2 := HI.out.c2
    by_cases hlt : k < N
    · have d1 : decide (a + (k : Int) < a + (N : Int)) = true := decide_eq_true (by omega)
      have v1 : IntKind.i64.wrap (a + (k : Int) + 1) = a + (k : Int) + 1 := IntWalk.i64_in _ (by omega)
      obtain ⟨fn, tmps, assign, body, hy, hR⟩ := hY (List.range k) O k wr HI.out.j (fun i hi => (HI.out.o i hi).1) ⟨rfl, hlt⟩
      simp only [encNum] at hy
      gi_wp2
      refine hR.mono ?_
      rintro e W3 ⟨rfl, O', hJ3, hK3⟩
      rw [← List.range_succ] at hJ3
      have HB := Lib.hid (HI.out.back hJ3 hK3)
      clear hJ3 hK3 hR hy
      gi_wp2
      go_roundw
      case rel => exact ⟨k + 1, O', by omega, by congr 1; omega, HB.out⟩
      case measure => simp [intOf]; omega
    · obtain rfl : k = N := by omega
      have d1 : decide (a + (k : Int) < a + (k : Int)) = false := decide_eq_false (by omega)
      gi_wp2
      go_end0
      exact ⟨⟨_, rfl⟩, _, HI.out.j⟩

/-- What numbers hands back: the numbers from one on. -/
theorem numbers_seq (F : Fence) (n : Nat) (hF : F.fn 102) (hro : F.round = none) (hn : 1 ≤ n) (b1 b2 : Nat) (a : Int) (N : Nat) (ha : -9000000000000000000 ≤ a) (hN : a + N ≤ 9000000000000000000)
    (w : World) (h1 : b1 < w.heap.size) (h2 : b2 < w.heap.size) (c1 : w.cell? ⟨b1, 0, none⟩ = some (.int .i64 a)) (c2 : w.cell? ⟨b2, 0, none⟩ = some (.int .i64 (a + N))) :
    SeqOwn F n Tryz.prog 102 #[.pointer (some ⟨b1, 0, none⟩), .pointer (some ⟨b2, 0, none⟩)] (encNum a) (two b1 b2) (fun xs => xs = List.range N) (upTo N) w := by
  intro l J O W hW hO hJ hY hI
  refine (numbers1_in F n hF hro hn l b1 b2 a N ha hN J O W ⟨hI, fun i hi => ⟨Nat.lt_of_lt_of_le (hO i hi).1 hW.size, (hO i hi).2⟩, Nat.lt_of_lt_of_le h1 hW.size, Nat.lt_of_lt_of_le h2 hW.size, (hW.cell (p := ⟨b1, 0, none⟩) h1).trans c1, (hW.cell (p := ⟨b2, 0, none⟩) h2).trans c2⟩ hY).mono ?_
  rintro e W' ⟨he, O', hj⟩
  exact ⟨he, _, O', rfl, hj⟩

set_option maxHeartbeats 1000000 in
theorem numbers_in (F : Fence) (n : Nat) (h5 : F.fn 77) (hro : F.round = none) (a b : Int) (w : World) :
    CallsIn F n Tryz.prog 77 #[.int .i64 a, .int .i64 b] w fun e w' => e = .returned (.func (.func 102) #[] #[.pointer (some ⟨w.heap.size, 0, none⟩), .pointer (some ⟨w.heap.size + 1, 0, none⟩)]) ∧ w' = (w.alloc (.cells #[.int .i64 a] 3)).alloc (.cells #[.int .i64 b] 3) := by
  refine callsIn_of_wp Tryz.func77 rfl h5 ?_ hro
  simp only [Tryz.ntmps77, List.size_toArray, List.length_cons, List.length_nil, Nat.reduceAdd, Nat.reduceSub, Array.replicate_succ, Array.replicate_zero, List.push_toArray, List.append_toArray, List.nil_append, List.cons_append]
  gi_wp2
  go_ret
  exact ⟨by simp, rfl⟩
end Go.Proofs.YtggapcfjcdafpaaGreat

namespace Go.Proofs.YtggapcfjcdafpaaGreat
open Go.RowKit Go.BigFrame
set_option linter.unusedVariables false
set_option linter.unusedSimpArgs false
section
variable {F : Fence} {n : Nat} {P : Program} {ops : Array Oper} {Q : Exit → Act → World → Prop} {md : Region.Mode} {C : World → Prop}
theorem uponIn_round (l : Nat) (o : Oper) (a : Act) (next : Act → World → Prop) (r : Result Next) (h : o.uponIn F n P a next Q r) : o.uponIn (F.inRound l) n P a next Q r := h
theorem wpIn_round (l : Nat) {o : Oper} {a : Act} {w : World} {K : Act → World → Prop} (hro : F.round = none) (hnd : ∀ c, o.op ≠ .defer c) (h : o.wpIn F n P a w K Q) : o.wpIn (F.inRound l) n P a w K Q := by
  obtain ⟨h1, h2⟩ := h
  refine ⟨h1, ?_⟩
  rw [hro] at h2
  rw [Fence.inRound_round, Oper.semAt_some l _ _ hnd]
  exact uponIn_round l o a K _ h2
theorem any_inRound (l : Nat) (hro : F.round = none) (hnd : ∀ (i : Nat) (o : Oper), ops[i]? = some o → ∀ c, o.op ≠ .defer c) : ∀ (fuel : Nat) (listed : Array Bool) (a : Act) (w : World), wpAnyIn F n P md ops Q fuel listed a w → wpAnyIn (F.inRound l) n P md ops Q fuel listed a w
  | 0, _, _, _, h => h
  | fuel + 1, listed, a, w, h => by
    refine ⟨h.1, fun i hi => ?_⟩
    have hx := h.2 i hi
    unfold wpOpIn at hx ⊢
    cases ho : ops[i]? with
    | none =>
      rw [ho] at hx
      exact any_inRound l hro hnd fuel _ _ _ hx
    | some o =>
      rw [ho] at hx
      dsimp only at hx ⊢
      split at hx
      · rename_i hw
        rw [if_pos hw]
        exact wpIn_round l hro (hnd i o ho) (Oper.wpIn_mono (fun a w h => any_inRound l hro hnd fuel _ a w h) hx)
      · rename_i hw
        rw [if_neg hw]
        exact ⟨hx.1, any_inRound l hro hnd fuel _ _ _ hx.2⟩
theorem no_defer {L : List Oper} (hd : L.all (fun o => match o.op with | .defer _ => false | _ => true) = true) : ∀ (i : Nat) (o : Oper), L.toArray[i]? = some o → ∀ c, o.op ≠ .defer c := by
  intro i o ho c hc
  have hm : o ∈ L := by
    have : L[i]? = some o := by simpa using ho
    exact List.mem_of_getElem? this
  have := List.all_eq_true.1 hd o hm
  rw [hc] at this
  cases this
theorem region_round (C : World → Prop) (l : Nat) {id : Nat} {L : List Oper} {a : Act} {w : World} (hro : F.round = none) (hm : P.follows .mixedOrders = true) (hB : Region.lexB .any L.toArray = true) (hd : L.all (fun o => match o.op with | .defer _ => false | _ => true) = true) (hC : C w.drew)
    (h : wpQuietIn F n P L.toArray C (fun a' => ∀ w', C w' → Q .normal a' w') L a) : (Code.region id L.toArray true).wpIn (F.inRound l) n P Q a w := by
  have hB' := hB
  simp only [Region.lexB, Bool.and_eq_true] at hB
  refine wpIn_region_any hm (any_inRound l hro ?_ _ _ _ _ (wpAnyIn_of_quiet (Q := fun a' => ∀ w', C w' → Q .normal a' w') hro (fun _ w' hw' h => h w' hw') _ _ _ _ hC ?_))
  · intro i o ho c hc
    have hm : o ∈ L := by
      have : L[i]? = some o := by simpa using ho
      exact List.mem_of_getElem? this
    have := List.all_eq_true.1 hd o hm
    rw [hc] at this
    cases this
  · have := wpAnyQIn_lex (F := F) (n := n) (C := C) (md := .any) hB.1 L 0 (Array.replicate L.length false) a (by simp) (by simpa using hB.2) h
    simpa using this
end
section
variable {F : Fence} {n : Nat} {P : Program} {ops : Array Oper} {C : World → Prop} {Q : Act → Prop} {a : Act} {o : Oper} {rest : List Oper}
theorem qi_val {v : Value} (hn : ∀ c, o.op ≠ .call c) (hw : Region.wanted o (yielded ops a.tmps) = true) (hr : ∀ w, C w → (execOp a.eval o).run P w = .ok (.value v) w) (h : wpQuietIn F n P ops C Q rest (a.put o.dst v)) : wpQuietIn F n P ops C Q (o :: rest) a := by
  refine ⟨askedIn_plain hn, ?_⟩
  rw [if_pos hw]
  exact ⟨v, fun w hC => by unfold Oper.quietAtIn; rw [hr w hC]; exact ⟨rfl, rfl⟩, h⟩
theorem qi_call {v : Value} {f : FuncId} {args : Array Value} (ha : o.askedIn F P a C) (hw : Region.wanted o (yielded ops a.tmps) = true) (hr : ∀ w, C w → (execOp a.eval o).run P w = .ok (.enter f args) w) (hd : F.depth.isSome = true → 1 ≤ n) (hc : ∀ w, C w → CallsIn F (n - 1) P f args w fun e w' => e = .returned v ∧ C w')
    (h : wpQuietIn F n P ops C Q rest (a.put o.dst v)) : wpQuietIn F n P ops C Q (o :: rest) a := by
  refine ⟨ha, ?_⟩
  rw [if_pos hw]
  exact ⟨v, fun w hC => by unfold Oper.quietAtIn; rw [hr w hC]; exact ⟨rfl, hd, hc w hC⟩, h⟩
end
end Go.Proofs.YtggapcfjcdafpaaGreat
