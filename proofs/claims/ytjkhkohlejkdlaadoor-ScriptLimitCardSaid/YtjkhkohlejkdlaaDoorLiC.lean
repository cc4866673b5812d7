/- append of a slice that reads as elements of k cells each. -/
import Derived.Test.YtjkhkohlejkdlaaDoorTel
import Derived.Laws.AppendOwnNone
namespace Go.Proofs.YtjkhkohlejkdlaaDoor
open Go.RowKit
set_option linter.unusedVariables false
set_option linter.unusedSimpArgs false

theorem flatL_inv {α : Type} {enc : α → List Value} {k : Nat} (hk : ∀ x, (enc x).length = k) : ∀ (L : List α) (j : Nat) (u : Value), (flatL enc L)[j]? = some u → ∃ q x i, L[q]? = some x ∧ (enc x)[i]? = some u ∧ j = q * k + i
  | [], j, u, h => by simp [flatL] at h
  | y :: L, j, u, h => by
    simp only [flatL, List.flatMap_cons] at h
    rcases Nat.lt_or_ge j (enc y).length with hj | hj
    · rw [List.getElem?_append_left hj] at h
      exact ⟨0, y, j, rfl, h, by simp⟩
    · rw [List.getElem?_append_right hj] at h
      obtain ⟨q, x, i, h1, h2, h3⟩ := flatL_inv hk L _ u h
      refine ⟨q + 1, x, i, by simpa using h1, h2, ?_⟩
      rw [hk] at h3 hj
      rw [Nat.add_mul]
      omega
theorem wpList_li {α : Type} {enc : α → List Value} {P : Program} {w : World} {ops : Array Oper} {rest : List Oper} {o : Oper} {a : Act} {Q : Exit → Act → World → Prop} {k bytes base n m c : Nat} {t e : TypeId} {v : Value} {xs : List Value} {s x : Operand} {A : Option Addr} {S : Nat → Prop} {M : List α}
    (hk : ∀ x, (enc x).length = k) (hk1 : ∀ x, ∀ u ∈ enc x, u.oneCell' = true) (E : Elt P t e k bytes) (hown : w.ownsRow base e k v n xs) (hbase : base ≤ w.heap.size) (hgd : o.guard = none) (ho : o.op = .call { callee := .builtin .append, args := #[s, x], argTypes := #[t, t] })
    (hs : a.eval s = v) (hx : a.eval x = .slice A m c) (hL : LiV k enc w S (.slice A m c) M) (h63 : n + m ≤ maxLen) (hbytes : (n + m) * bytes ≤ 140737488355328)
    (h : ∀ A' c' w', Pushed w w' base e k v (n + m) (xs ++ flatL enc M) A' c' → wpList P ops Q rest (a.put o.dst (.slice A' (n + m) c')) w') : wpList P ops Q (o :: rest) a w := by
  obtain ⟨ht, i, z, hi, hz, hsize, hby, hzs, hsz⟩ := E
  obtain ⟨rfl, hli, hnil, _, _⟩ := hL.parts
  rcases A with _ | ad
  · obtain ⟨h0, rfl⟩ := hnil rfl
    obtain rfl : M = [] := List.eq_nil_of_length_eq_zero h0
    refine wpList_append_own_none hgd s x t ho base e i k ht hi v n xs hs hown hx ?_
    obtain ⟨A', c', rfl⟩ := own_slice hown
    exact h A' c' w ⟨by simpa [flatL] using hown, World.grownBy.refl w _, .inl rfl⟩
  · refine wpList_append_own_at w hgd s x t ho base e i z k bytes ht hi hz hsize hby hzs hsz v n xs hs hown ad M.length c (flatL enc M) hx (flatL_len hk M) ?_ ?_ h63 hbytes hbase ?_
    · intro j u hj
      obtain ⟨q, y, i, h1, h2, rfl⟩ := flatL_inv hk M j u hj
      obtain ⟨b, off, e1, _, _, hc⟩ := hli q y h1
      injection e1 with e1
      subst e1
      rw [Addr.add_lit]
      exact hc i u h2
    · intro u hu
      obtain ⟨y, _, hy⟩ := List.mem_flatMap.1 hu
      exact hk1 y u hy
    · intro v' w' hown' hg _ hat
      obtain ⟨A', c', rfl⟩ := own_slice hown'
      refine h A' c' w' ⟨hown', hg, ?_⟩
      rcases hat with e1 | e1
      · exact .inl e1
      · exact .inr ⟨_, e1, Nat.le_refl _⟩

def lenTo {α : Type} (Ls : List (List α)) (j : Nat) : Nat := (Ls.take j).flatten.length
theorem lenTo_succ {α : Type} {Ls : List (List α)} {j : Nat} {L : List α} (h : Ls[j]? = some L) : lenTo Ls (j + 1) = lenTo Ls j + L.length := by
  obtain ⟨hj, e⟩ := List.getElem?_eq_some_iff.1 h
  unfold lenTo
  rw [List.take_succ_eq_append_getElem hj, e]
  simp
theorem flat_succ {α : Type} {Ls : List (List α)} {j : Nat} {L : List α} (h : Ls[j]? = some L) : (Ls.take (j + 1)).flatten = (Ls.take j).flatten ++ L := by
  obtain ⟨hj, e⟩ := List.getElem?_eq_some_iff.1 h
  rw [List.take_succ_eq_append_getElem hj, e]
  simp
theorem lenTo_le {α : Type} (Ls : List (List α)) (j : Nat) : lenTo Ls j ≤ Ls.flatten.length := by
  unfold lenTo
  have h : Ls.flatten = (Ls.take j).flatten ++ (Ls.drop j).flatten := by rw [← List.flatten_append, List.take_append_drop]
  rw [h, List.length_append]
  omega
/-- Lists in slices, one for each. -/
structure Many {α : Type} (k : Nat) (enc : α → List Value) (w : World) (A : Nat → Option Addr) (c : Nat → Nat) (Ls : List (List α)) : Prop where
  li : ∀ j L, Ls[j]? = some L → LiV k enc w (fun _ => True) (.slice (A j) L.length (c j)) L
end Go.Proofs.YtjkhkohlejkdlaaDoor
