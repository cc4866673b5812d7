/- trie: what a trie that grows is in memory. -/
import Derived.Test.YtpbdamjpjpchiaaTrR
import Derived.Test.YtpbdamjpjpchiaaStepN
namespace Go.Proofs.Ytpbdamjpjpchiaa
open Go.RowKit Go.Maps
set_option linter.unusedVariables false
set_option linter.unusedSimpArgs false

theorem block_elt : Elt Try.prog 50 54 128 1024 := elt_of Try.underlying50 (z := .agg Try.zeroCells54) (by kernel_rfl) (by kernel_rfl) (by decide)
theorem id_elt : Elt Try.prog 51 21 1 4 := elt_of Try.underlying51 (z := .int .i32 0) (by kernel_rfl) rfl (by decide)
def encN (i : Nat) : List Value := [.int .i32 i]
theorem cellsB_one (B : List Int) : ∀ v ∈ cellsB B, v.oneCell' = true := by
  intro v hv
  obtain ⟨i, _, rfl⟩ := List.mem_map.1 hv
  rfl
/-- What is known of the blocks' numbers. -/
structure LOk (l : List Int → Option Nat) (Bs : List (List Int)) : Prop where
  yes : ∀ B i, l B = some i → Bs[i]? = some B
  no : ∀ B, l B = none → B ∉ Bs
  nd : Bs.Nodup
theorem LOk.nil : LOk (fun _ => none) [] := ⟨fun _ _ h => (by cases h), fun _ _ => by simp, List.nodup_nil⟩
theorem LOk.also {l : List Int → Option Nat} {Bs : List (List Int)} (h : LOk l Bs) {B : List Int} (hB : l B = none) : LOk (also l B Bs.length) (Bs ++ [B]) := by
  refine ⟨fun X i hX => ?_, fun X hX => ?_, ?_⟩
  · unfold Go.Proofs.Ytpbdamjpjpchiaa.also at hX
    by_cases e : B = X
    · rw [if_pos e] at hX
      cases hX
      simp [e]
    · rw [if_neg e] at hX
      have := h.yes X i hX
      have hl := (List.getElem?_eq_some_iff.1 this).1
      rw [List.getElem?_append_left hl]
      exact this
  · unfold Go.Proofs.Ytpbdamjpjpchiaa.also at hX
    by_cases e : B = X
    · rw [if_pos e] at hX; cases hX
    · rw [if_neg e] at hX
      have := h.no X hX
      simp only [List.mem_append, List.mem_singleton, not_or]
      exact ⟨this, fun h => e h.symm⟩
  · rw [List.nodup_append]
    exact ⟨h.nd, by simp, fun a ha b hb e => by simp at hb; subst hb; subst e; exact h.no _ hB ha⟩

/-- A trie under way: its cells, its blocks, what it knows of where they are. -/
structure Tr (base : Nat) (tb mb : Nat) (m : Int) (A : Option Addr) (n c : Nat) (Bs : List (List Int)) (A2 : Option Addr) (n2 c2 : Nat) (Ix : List Nat) (l : List Int → Option Nat) (W : World) : Prop where
  cel : Blk W tb #[.int .i64 m, .slice A n c, .slice A2 n2 c2]
  bl : W.ownsRow base 54 128 (.slice A n c) n (flatL cellsB Bs)
  wh : W.ownsRow base 21 1 (.slice A2 n2 c2) n2 (flatL encN Ix)
  kn : Kn W mb Bs.length l
  ok : LOk l Bs
  wf : ∀ B ∈ Bs, WfB B
  len : n = Bs.length
  t0 : base ≤ tb
  m0 : base ≤ mb
  n1 : ∀ g, (Value.slice A n c).ownBlock = some g → g ≠ tb
  n2' : ∀ g, (Value.slice A2 n2 c2).ownBlock = some g → g ≠ tb
/-- What a trie's growing may turn. -/
def Ow (tb mb : Nat) (A : Option Addr) (n c : Nat) (A2 : Option Addr) (n2 c2 : Nat) (k : Nat) : Prop := k = tb ∨ k = mb ∨ (Value.slice A n c).ownBlock = some k ∨ (Value.slice A2 n2 c2).ownBlock = some k
theorem row_heap {w : World} {base size n : Nat} {e : TypeId} {v : Value} {xs : List Value} {g : Nat} (h : w.ownsRow base e size v n xs) (hg : v.ownBlock = some g) : ∃ cur, w.heap[g]? = some (.cells cur e (0, 0)) := by
  obtain ⟨_, ⟨rfl, _⟩ | ⟨g', cap, cur, rfl, _, hh, _⟩⟩ := h
  · cases hg
  · injection hg with hg
    subst hg
    exact ⟨cur, hh⟩
theorem Kn.heap {w : World} {b n : Nat} {l : List Int → Option Nat} (h : Kn w b n l) : ∃ es clock, w.heap[b]? = some (.map es clock) := by
  obtain ⟨D, ⟨es, clock, hh, _⟩, _⟩ := h
  exact ⟨es, clock, hh⟩
section
variable {base tb mb : Nat} {m : Int} {A A2 : Option Addr} {n c n2 c2 : Nat} {Bs : List (List Int)} {Ix : List Nat} {l : List Int → Option Nat} {W W' : World}
theorem Tr.mt (h : Tr base tb mb m A n c Bs A2 n2 c2 Ix l W) : mb ≠ tb := by
  rintro rfl
  obtain ⟨es, clock, e⟩ := h.kn.heap
  have := h.cel.2.1 0
  simp [World.cell?, e] at this
theorem Tr.m1 (h : Tr base tb mb m A n c Bs A2 n2 c2 Ix l W) : ∀ g, (Value.slice A n c).ownBlock = some g → g ≠ mb := by
  rintro g hg rfl
  obtain ⟨es, clock, e⟩ := h.kn.heap
  obtain ⟨cur, e2⟩ := row_heap h.bl hg
  rw [e] at e2; cases e2
theorem Tr.m2 (h : Tr base tb mb m A n c Bs A2 n2 c2 Ix l W) : ∀ g, (Value.slice A2 n2 c2).ownBlock = some g → g ≠ mb := by
  rintro g hg rfl
  obtain ⟨es, clock, e⟩ := h.kn.heap
  obtain ⟨cur, e2⟩ := row_heap h.wh hg
  rw [e] at e2; cases e2
theorem Tr.n12 (h : Tr base tb mb m A n c Bs A2 n2 c2 Ix l W) : ∀ g, (Value.slice A n c).ownBlock = some g → (Value.slice A2 n2 c2).ownBlock ≠ some g := by
  intro g hg hg2
  obtain ⟨cur, e⟩ := row_heap h.bl hg
  obtain ⟨cur2, e2⟩ := row_heap h.wh hg2
  rw [e] at e2
  injection e2 with e2
  injection e2 with _ e2 _
  exact absurd e2 (by decide)
theorem Tr.low (h : Tr base tb mb m A n c Bs A2 n2 c2 Ix l W) : ∀ k, Ow tb mb A n c A2 n2 c2 k → base ≤ k ∧ k < W.heap.size := by
  rintro k (rfl | rfl | hk | hk)
  · exact ⟨h.t0, h.cel.1⟩
  · exact ⟨h.m0, h.kn.lt⟩
  · exact h.bl.lt k hk
  · exact h.wh.lt k hk
/-- What turns none of a trie's blocks leaves the trie. -/
theorem Tr.kept (h : Tr base tb mb m A n c Bs A2 n2 c2 Ix l W) (hs : W.heap.size ≤ W'.heap.size) (hk : ∀ k, Ow tb mb A n c A2 n2 c2 k → W'.heap[k]? = W.heap[k]?) : Tr base tb mb m A n c Bs A2 n2 c2 Ix l W' := by
  refine ⟨?_, ?_, ?_, ?_, h.ok, h.wf, h.len, h.t0, h.m0, h.n1, h.n2'⟩
  · exact Blk.same h.cel (hk tb (.inl rfl)) hs
  · obtain ⟨e1, h1 | ⟨g, cap, cur, e2, h2, h3, h4⟩⟩ := h.bl
    · exact ⟨e1, .inl h1⟩
    · exact ⟨e1, .inr ⟨g, cap, cur, e2, h2, (hk g (.inr (.inr (.inl (by rw [e2]; rfl))))).trans h3, h4⟩⟩
  · obtain ⟨e1, h1 | ⟨g, cap, cur, e2, h2, h3, h4⟩⟩ := h.wh
    · exact ⟨e1, .inl h1⟩
    · exact ⟨e1, .inr ⟨g, cap, cur, e2, h2, (hk g (.inr (.inr (.inr (by rw [e2]; rfl))))).trans h3, h4⟩⟩
  · obtain ⟨D, ⟨es, clock, hh, F, hs, hD⟩, h2⟩ := h.kn
    exact ⟨D, ⟨es, clock, (hk mb (.inr (.inl rfl))).trans hh, F, hs, hD⟩, h2⟩
theorem Tr.later (h : Tr base tb mb m A n c Bs A2 n2 c2 Ix l W) (hb : Below W.heap.size W W') : Tr base tb mb m A n c Bs A2 n2 c2 Ix l W' := h.kept hb.size fun k hk => hb.block k (h.low k hk).2
end
end Go.Proofs.Ytpbdamjpjpchiaa
