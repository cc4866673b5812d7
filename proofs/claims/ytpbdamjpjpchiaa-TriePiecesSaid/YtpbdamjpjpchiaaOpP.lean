/- append within a fence: one element more. -/
import Derived.Test.YtpbdamjpjpchiaaKit
import Derived.RangeFuncNested
import Derived.RangeFuncBox
import Derived.Shelf.Abstract
import Derived.Shelf.RegionOpen
import Derived.OwnWalkIn
import Derived.TacticsInMore
import Derived.LoopNIn
import Derived.LoopIn
import Derived.IntWalk
namespace Go.Proofs.Ytpbdamjpjpchiaa
open Go.RowKit
set_option linter.unusedVariables false
set_option linter.unusedSimpArgs false
attribute [local go_sem] Oper.semAt_some

/-- 'append' in a region that draws its order: one element more. -/
theorem opIn_push {F : Fence} {m : Nat} {P : Program} {w0 : World} {cs : Array Value} {e' : TypeId} {o : Oper} {a : Act} {K : Act → World → Prop} {Q : Exit → Act → World → Prop} {size bytes base n k : Nat} {t e : TypeId} {v : Value} {xs : List Value} {s x : Operand}
    (E : Elt P t e size bytes) (hown : w0.ownsRow base e size v n xs) (hbase : base ≤ w0.heap.size) (ho : o.op = .call { callee := .builtin .append, args := #[s, x], argTypes := #[t, t] })
    (hs : a.eval s = v) (hx : a.eval x = .slice (some ⟨k, 0, none⟩) 1 1) (hk : k = w0.heap.size) (hcs : cs.size = size) (h1 : cs.toList.all Value.oneCell' = true) (h63 : n + 1 ≤ maxLen) (hbytes : (n + 1) * bytes ≤ 140737488355328)
    (h : ∀ A c w', Pushed w0 w' base e size v (n + 1) (xs ++ cs.toList) A c → K (a.put o.dst (.slice A (n + 1) c)) w') : Oper.wpIn F m P o a (w0.alloc (.cells cs e')) K Q := by
  obtain ⟨ht, i, z, hi, hz, hsize, hby, hzs, hsz⟩ := E
  subst hk
  obtain ⟨v', w', hrun, hown', hg, _, hat⟩ := run_append_own_at (P := P) (w0.alloc (.cells cs e')) base t o.type e i z size bytes ht hi hz hsize hby hzs hsz v n xs (hown.alloc _) ⟨w0.heap.size, 0, none⟩ 1 1 cs.toList (by simp [hcs])
    (by intro j u hj; rw [Addr.add_lit, Nat.zero_add, World.cell?_alloc_new, ← hj]; simp) (fun u hu => List.all_eq_true.1 h1 u hu) h63 hbytes (by rw [World.size_alloc]; omega)
  obtain ⟨A, c, rfl⟩ := own_slice hown'
  have hP : Pushed w0 w' base e size v (n + 1) (xs ++ cs.toList) A c := by
    refine ⟨hown', (World.grownBy_alloc w0 _ _).trans hg, ?_⟩
    rcases hat with e1 | e1
    · exact .inl e1
    · exact .inr ⟨_, e1, by rw [World.size_alloc]; omega⟩
  unfold Oper.wpIn
  refine ⟨?_, ?_⟩
  · simp [Oper.about, ho, resolve, Target.leads, Sem.run_pure]
  · rw [Oper.semAt_plain F _ _ (by rw [ho]; intro c hc'; cases hc')]
    simp [execOp, ho, resolve, invoke, builtin, hs, hx, hrun, Result.andThen]
    exact h A c w' hP

theorem listIn_push {F : Fence} {m : Nat} {P : Program} {w0 : World} {cs : Array Value} {e' : TypeId} {ops : Array Oper} {rest : List Oper} {o : Oper} {a : Act} {Q : Exit → Act → World → Prop} {size bytes base n k : Nat} {t e : TypeId} {v : Value} {xs : List Value} {s x : Operand}
    (E : Elt P t e size bytes) (hown : w0.ownsRow base e size v n xs) (hbase : base ≤ w0.heap.size) (hgd : o.guard = none) (ho : o.op = .call { callee := .builtin .append, args := #[s, x], argTypes := #[t, t] })
    (hs : a.eval s = v) (hx : a.eval x = .slice (some ⟨k, 0, none⟩) 1 1) (hk : k = w0.heap.size) (hcs : cs.size = size) (h1 : cs.toList.all Value.oneCell' = true) (h63 : n + 1 ≤ maxLen) (hbytes : (n + 1) * bytes ≤ 140737488355328)
    (h : ∀ A c w', Pushed w0 w' base e size v (n + 1) (xs ++ cs.toList) A c → wpListIn F m P ops Q rest (a.put o.dst (.slice A (n + 1) c)) w') : wpListIn F m P ops Q (o :: rest) a (w0.alloc (.cells cs e')) := wpListIn_plain hgd fun K hK => opIn_push E hown hbase ho hs hx hk hcs h1 h63 hbytes fun A c w' hp => hK _ _ (h A c w' hp)
end Go.Proofs.Ytpbdamjpjpchiaa
