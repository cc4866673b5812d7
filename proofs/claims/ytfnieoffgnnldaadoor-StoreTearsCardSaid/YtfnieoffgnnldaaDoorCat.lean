/- append of a slice whose elements have several cells; the block of a row of the call's own. -/
import Derived.Test.YtfnieoffgnnldaaDoorKit
namespace Go.Proofs.YtfnieoffgnnldaaDoor
open Go.RowKit
set_option linter.unusedVariables false
set_option linter.unusedSimpArgs false

/-- 'v = append(v, x...)': x's cells, one by one, are ys. -/
theorem wpList_catN {P : Program} {w : World} {ops : Array Oper} {rest : List Oper} {o : Oper} {a : Act} {Q : Exit → Act → World → Prop} {size bytes base n m c : Nat} {t e : TypeId} {v : Value} {xs ys : List Value} {s x : Operand} {b off : Nat}
    (E : Elt P t e size bytes) (hown : w.ownsRow base e size v n xs) (hbase : base ≤ w.heap.size) (hgd : o.guard = none) (ho : o.op = .call { callee := .builtin .append, args := #[s, x], argTypes := #[t, t] })
    (hs : a.eval s = v) (hx : a.eval x = .slice (some ⟨b, off, none⟩) m c) (hl : ys.length = m * size) (hr : ∀ (j : Nat) (u : Value), ys[j]? = some u → w.cell? ⟨b, off + j, none⟩ = some u) (h1 : ∀ u ∈ ys, u.oneCell' = true) (h63 : n + m ≤ maxLen) (hbytes : (n + m) * bytes ≤ 140737488355328)
    (h : ∀ A' c' w', Pushed w w' base e size v (n + m) (xs ++ ys) A' c' → wpList P ops Q rest (a.put o.dst (.slice A' (n + m) c')) w') : wpList P ops Q (o :: rest) a w := by
  obtain ⟨ht, i, z, hi, hz, hsize, hby, hzs, hsz⟩ := E
  refine wpList_append_own_at w hgd s x t ho base e i z size bytes ht hi hz hsize hby hzs hsz v n xs hs hown ⟨b, off, none⟩ m c ys hx hl ?_ h1 h63 hbytes hbase ?_
  · intro j u hj
    rw [Addr.add_lit]
    exact hr j u hj
  · intro v' w' hown' hg _ hat
    obtain ⟨A', c', rfl⟩ := own_slice hown'
    refine h A' c' w' ⟨hown', hg, ?_⟩
    rcases hat with e1 | e1
    · exact .inl e1
    · exact .inr ⟨_, e1, Nat.le_refl _⟩

theorem own_newN (w : World) (cs : Array Value) (e : TypeId) (size n : Nat) (hn : cs.size = n * size) (hm : n ≤ maxLen) : (w.alloc (.cells cs e)).ownsRow w.heap.size e size (.slice (some ⟨w.heap.size, 0, none⟩) n n) n cs.toList :=
  ⟨by simp [hn], .inr ⟨w.heap.size, n, cs, rfl, Nat.le_refl _, heap_alloc_new w _, Nat.le_refl _, hm, hn, by exact List.take_of_length_le (by simp [hn])⟩⟩

theorem blk_heap {w : World} {g : Nat} {cs : Array Value} {t : TypeId} (h : w.heap[g]? = some (.cells cs t (0, 0))) : Blk w g cs := by
  refine ⟨?_, fun j => ?_, fun j => ?_⟩
  · rcases Nat.lt_or_ge g w.heap.size with hl | hl
    · exact hl
    · rw [Array.getElem?_eq_none hl] at h; cases h
  · simp [World.cell?, h]
  · simp [World.frozen?, h]

/-- A row of the call's own that has elements: its block. -/
theorem own_blk {w : World} {base : Nat} {e : TypeId} {size n c : Nat} {A : Option Addr} {xs : List Value} (h : w.ownsRow base e size (.slice A n c) n xs) (hn : 0 < n) :
    ∃ g cs, A = some ⟨g, 0, none⟩ ∧ base ≤ g ∧ Blk w g cs ∧ n ≤ c ∧ c ≤ maxLen ∧ cs.size = c * size ∧ ∀ (j : Nat) (u : Value), xs[j]? = some u → cs[j]? = some u := by
  have hx := h.1
  rcases h.2 with ⟨hv, hx0⟩ | ⟨g, cap, cur, hv, hb, hh, h1, h2, h3, h4⟩
  · injection hv with e1 e2 e3
    omega
  · injection hv with e1 e2 e3
    subst e1; subst e3
    refine ⟨g, cur, rfl, hb, blk_heap hh, h1, h2, h3, fun j u hj => ?_⟩
    rw [← h4, List.getElem?_take] at hj
    split at hj
    · simpa using hj
    · cases hj
end Go.Proofs.YtfnieoffgnnldaaDoor
