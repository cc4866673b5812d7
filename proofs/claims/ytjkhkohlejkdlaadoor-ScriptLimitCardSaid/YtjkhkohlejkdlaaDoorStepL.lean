/- append of a slice that reads as elements of k cells each, at a step of a region that draws its order. -/
import Derived.Test.YtjkhkohlejkdlaaDoorLiC
import Derived.Deep.RegionHeld3
import Derived.Deep.AppendLies
namespace Go.Proofs.YtjkhkohlejkdlaaDoor
open Go.RowKit
set_option linter.unusedVariables false
set_option linter.unusedSimpArgs false

theorem step_li {α : Type} {enc : α → List Value} {P : Program} {w : World} {ops : Array Oper} {o : Oper} {a : Act} {K : Act → World → Prop} {Q : Exit → Act → World → Prop} {Ep : Prop} {k bytes base n m c : Nat} {t e : TypeId} {v : Value} {xs : List Value} {s x : Operand} {A : Option Addr} {S : Nat → Prop} {M : List α}
    (hk : ∀ x, (enc x).length = k) (hk1 : ∀ x, ∀ u ∈ enc x, u.oneCell' = true) (E : Elt P t e k bytes) (hown : w.ownsRow base e k v n xs) (hbase : base ≤ w.heap.size) (hgd : o.guard = none) (ho : o.op = .call { callee := .builtin .append, args := #[s, x], argTypes := #[t, t] })
    (hs : a.eval s = v) (hx : a.eval x = .slice A m c) (hL : LiV k enc w S (.slice A m c) M) (h63 : n + m ≤ maxLen) (hbytes : (n + m) * bytes ≤ 140737488355328)
    (h : ∀ A' c' w', Pushed w w' base e k v (n + m) (xs ++ flatL enc M) A' c' → K (a.put o.dst (.slice A' (n + m) c')) w') : if Region.wanted o (yielded ops a.tmps) = true then Oper.wp P o a w K Q else Ep := by
  have hw : Region.wanted o (yielded ops a.tmps) = true := by simp [Region.wanted, hgd]
  rw [if_pos hw]
  obtain ⟨ht, i, z, hi, hz, hsize, hby, hzs, hsz⟩ := E
  obtain ⟨rfl, hli, hnil, _, _⟩ := hL.parts
  rcases A with _ | ad
  · obtain ⟨h0, rfl⟩ := hnil rfl
    obtain rfl : M = [] := List.eq_nil_of_length_eq_zero h0
    have hrun := run_append_owned_none (P := P) (w := w) base t o.type e i k ht hi v n xs hown
    obtain ⟨A', c', rfl⟩ := own_slice hown
    unfold Oper.wp
    simp [execOp, ho, resolve, invoke, builtin, hs, hx, hrun, Result.andThen]
    exact h A' c' w ⟨by simpa [flatL] using hown, World.grownBy.refl w _, .inl rfl⟩
  · obtain ⟨v', w', hrr, h2, h3, h4, h5⟩ := run_append_own_at (P := P) w base t o.type e i z k bytes ht hi hz hsize hby hzs hsz v n xs hown ad M.length c (flatL enc M) (flatL_len hk M) (by
      intro j u hj
      obtain ⟨q, y, i, h1, h2, rfl⟩ := flatL_inv hk M j u hj
      obtain ⟨b, off, e1, _, _, hc⟩ := hli q y h1
      injection e1 with e1
      subst e1
      rw [Addr.add_lit]
      exact hc i u h2) (by
      intro u hu
      obtain ⟨y, _, hy⟩ := List.mem_flatMap.1 hu
      exact hk1 y u hy) h63 hbytes hbase
    obtain ⟨A', c', rfl⟩ := own_slice h2
    unfold Oper.wp execOp
    simp only [ho, resolve, invoke, builtin, Sem.run_bind, Sem.run_pure, Result.andThen_ok, List.map_toArray, List.map_cons, List.map_nil, hs, hx, hrr]
    refine h A' c' w' ⟨h2, h3, ?_⟩
    rcases h5 with e1 | e1
    · exact .inl e1
    · exact .inr ⟨_, e1, Nat.le_refl _⟩
end Go.Proofs.YtjkhkohlejkdlaaDoor
