/- append within a fence: a slice that reads as elements. -/
import Derived.Test.YtjkhkohlejkdlaaDoorLiC
import Derived.OwnWalkIn
import Derived.TacticsInMore
namespace Go.Proofs.YtjkhkohlejkdlaaDoor
open Go.RowKit
set_option linter.unusedVariables false
set_option linter.unusedSimpArgs false
attribute [local go_sem] Oper.semAt_some

theorem opIn_li {α : Type} {enc : α → List Value} {F : Fence} {q : Nat} {P : Program} {w : World} {o : Oper} {a : Act} {K : Act → World → Prop} {Q : Exit → Act → World → Prop} {k bytes base n m c : Nat} {t e : TypeId} {v : Value} {xs : List Value} {s x : Operand} {A : Option Addr} {S : Nat → Prop} {M : List α}
    (hk : ∀ x, (enc x).length = k) (hk1 : ∀ x, ∀ u ∈ enc x, u.oneCell' = true) (E : Elt P t e k bytes) (hown : w.ownsRow base e k v n xs) (hbase : base ≤ w.heap.size) (ho : o.op = .call { callee := .builtin .append, args := #[s, x], argTypes := #[t, t] })
    (hs : a.eval s = v) (hx : a.eval x = .slice A m c) (hL : LiV k enc w S (.slice A m c) M) (h63 : n + m ≤ maxLen) (hbytes : (n + m) * bytes ≤ 140737488355328)
    (h : ∀ A' c' w', Pushed w w' base e k v (n + m) (xs ++ flatL enc M) A' c' → K (a.put o.dst (.slice A' (n + m) c')) w') : Oper.wpIn F q P o a w K Q := by
  obtain ⟨ht, i, z, hi, hz, hsize, hby, hzs, hsz⟩ := E
  obtain ⟨rfl, hli, hnil, _, _⟩ := hL.parts
  rcases A with _ | ad
  · obtain ⟨h0, rfl⟩ := hnil rfl
    obtain rfl : M = [] := List.eq_nil_of_length_eq_zero h0
    have hrun := run_append_owned_none (P := P) (w := w) base t o.type e i k ht hi v n xs hown
    obtain ⟨A', c', rfl⟩ := own_slice hown
    unfold Oper.wpIn
    refine ⟨?_, ?_⟩
    · simp [Oper.about, ho, resolve, Target.leads, Sem.run_pure]
    · rw [Oper.semAt_plain F _ _ (by rw [ho]; intro c hc'; cases hc')]
      simp [execOp, ho, resolve, invoke, builtin, hs, hx, hrun, Result.andThen]
      exact h A' c' w ⟨by simpa [flatL] using hown, World.grownBy.refl w _, .inl rfl⟩
  · obtain ⟨v', w', hrun, h2, h3, h4, h5⟩ := run_append_own_at (P := P) w base t o.type e i z k bytes ht hi hz hsize hby hzs hsz v n xs hown ad M.length c (flatL enc M) (flatL_len hk M) (by
      intro j u hj
      obtain ⟨q, y, i, h1, h2, rfl⟩ := flatL_inv hk M j u hj
      obtain ⟨b, off, e1, _, _, hc⟩ := hli q y h1
      injection e1 with e1
      subst e1
      rw [Addr.add_lit]
      exact hc i u h2) (by
      intro u hu
      obtain ⟨y, _, hy⟩ := List.mem_flatMap.1 hu
      exact hk1 y u hy) h63 hbytes hbase
    obtain ⟨A', c', rfl⟩ := own_slice h2
    have hP : Pushed w w' base e k v (n + M.length) (xs ++ flatL enc M) A' c' := by
      refine ⟨h2, h3, ?_⟩
      rcases h5 with e1 | e1
      · exact .inl e1
      · exact .inr ⟨_, e1, Nat.le_refl _⟩
    unfold Oper.wpIn
    refine ⟨?_, ?_⟩
    · simp [Oper.about, ho, resolve, Target.leads, Sem.run_pure]
    · rw [Oper.semAt_plain F _ _ (by rw [ho]; intro c hc'; cases hc')]
      simp [execOp, ho, resolve, invoke, builtin, hs, hx, hrun, Result.andThen]
      exact h A' c' w' hP
theorem listIn_li {α : Type} {enc : α → List Value} {F : Fence} {q : Nat} {P : Program} {w : World} {ops : Array Oper} {rest : List Oper} {o : Oper} {a : Act} {Q : Exit → Act → World → Prop} {k bytes base n m c : Nat} {t e : TypeId} {v : Value} {xs : List Value} {s x : Operand} {A : Option Addr} {S : Nat → Prop} {M : List α}
    (hk : ∀ x, (enc x).length = k) (hk1 : ∀ x, ∀ u ∈ enc x, u.oneCell' = true) (E : Elt P t e k bytes) (hown : w.ownsRow base e k v n xs) (hbase : base ≤ w.heap.size) (hgd : o.guard = none) (ho : o.op = .call { callee := .builtin .append, args := #[s, x], argTypes := #[t, t] })
    (hs : a.eval s = v) (hx : a.eval x = .slice A m c) (hL : LiV k enc w S (.slice A m c) M) (h63 : n + m ≤ maxLen) (hbytes : (n + m) * bytes ≤ 140737488355328)
    (h : ∀ A' c' w', Pushed w w' base e k v (n + m) (xs ++ flatL enc M) A' c' → wpListIn F q P ops Q rest (a.put o.dst (.slice A' (n + m) c')) w') : wpListIn F q P ops Q (o :: rest) a w := wpListIn_plain hgd fun K hK => opIn_li hk hk1 E hown hbase ho hs hx hL h63 hbytes fun A c w' hp => hK _ _ (h A c w' hp)
end Go.Proofs.YtjkhkohlejkdlaaDoor
