/- append of one element of several cells, at a step of a region that draws its order. -/
import Derived.Test.YtpbdamjpjpchiaaKit
import Derived.Deep.RegionHeld3
import Derived.Deep.AppendLies
import Derived.Maps.AppendAt
namespace Go.Proofs.Ytpbdamjpjpchiaa
open Go.RowKit
set_option linter.unusedVariables false
set_option linter.unusedSimpArgs false

theorem step_pushN {P : Program} {w0 w : World} {cs : Array Value} {e' : TypeId} {ops : Array Oper} {o : Oper} {a : Act} {K : Act → World → Prop} {Q : Exit → Act → World → Prop} {Ep : Prop} {size bytes base n k : Nat} {t e : TypeId} {v : Value} {xs : List Value} {s x : Operand}
    (E : Elt P t e size bytes) (hown : w0.ownsRow base e size v n xs) (hbase : base ≤ w0.heap.size) (hgd : o.guard = none) (ho : o.op = .call { callee := .builtin .append, args := #[s, x], argTypes := #[t, t] })
    (hs : a.eval s = v) (hx : a.eval x = .slice (some ⟨k, 0, none⟩) 1 1) (hk : k = w0.heap.size) (hw : w = (w0.alloc (.cells cs e')).drew) (hcs : cs.size = size) (h1 : cs.toList.all Value.oneCell' = true) (h63 : n + 1 ≤ maxLen) (hbytes : (n + 1) * bytes ≤ 140737488355328)
    (h : ∀ A c w', Pushed w0 w' base e size v (n + 1) (xs ++ cs.toList) A c → K (a.put o.dst (.slice A (n + 1) c)) w') : if Region.wanted o (yielded ops a.tmps) = true then Oper.wp P o a w K Q else Ep := by
  have hwd : Region.wanted o (yielded ops a.tmps) = true := by simp [Region.wanted, hgd]
  rw [if_pos hwd]
  subst hw; subst hk
  obtain ⟨ht, i, z, hi, hz, hsize, hby, hzs, hsz⟩ := E
  have hown' : (w0.alloc (.cells cs e')).drew.ownsRow base e size v n xs := own_later hown (((Below.refl _ _).alloc (Nat.le_refl _) _).drew)
  obtain ⟨v', w', hrr, h2, h3, h4, h5⟩ := run_append_own_at (P := P) (w := (w0.alloc (.cells cs e')).drew) base t o.type e i z size bytes ht hi hz hsize hby hzs hsz v n xs hown' ⟨w0.heap.size, 0, none⟩ 1 1 cs.toList (by simp [hcs]) (by
    intro j u hj
    rw [Addr.add_lit, Nat.zero_add]
    show (w0.alloc (.cells cs e')).cell? _ = _
    rw [World.cell?_alloc_new, ← hj]
    simp) (fun u hu => List.all_eq_true.1 h1 u hu) h63 hbytes (by simp [World.size_alloc]; omega)
  obtain ⟨A', c', rfl⟩ := own_slice h2
  unfold Oper.wp execOp
  simp only [ho, resolve, invoke, builtin, Sem.run_bind, Sem.run_pure, Result.andThen_ok, List.map_toArray, List.map_cons, List.map_nil, hs, hx, hrr]
  refine h A' c' w' ⟨h2, ?_, ?_⟩
  · exact (World.grownBy_alloc w0 _ _).trans ⟨h3.os, h3.tape, h3.output, h3.size, h3.block⟩
  · rcases h5 with e1 | e1
    · exact .inl e1
    · exact .inr ⟨_, e1, by simp [World.size_alloc]⟩
end Go.Proofs.Ytpbdamjpjpchiaa
