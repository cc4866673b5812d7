/- A region that draws its order, in a round of a range over a function, in a class of worlds. -/
import Derived.Test.YtjkhkohlejkdlaaDoorKit
import Derived.Sort.QuietThIn
import Derived.Sort.QuietLawsIn
import Derived.RangeFuncCalls
namespace Go.Proofs.YtjkhkohlejkdlaaDoor
open Go.RowKit Go.BigFrame
set_option linter.unusedVariables false
set_option linter.unusedSimpArgs false
section
variable {F : Fence} {n : Nat} {P : Program} {ops : Array Oper} {Q : Exit → Act → World → Prop} {md : Region.Mode} {C : World → Prop}
theorem uponIn_round (l : Nat) (o : Oper) (a : Act) (next : Act → World → Prop) (r : Result Next) (h : o.uponIn F n P a next Q r) : o.uponIn (F.inRound l) n P a next Q r := h
theorem wpIn_round (l : Nat) {o : Oper} {a : Act} {w : World} {K : Act → World → Prop} (hro : F.round = none) (hnd : ∀ c, o.op ≠ .defer c) (h : o.wpIn F n P a w K Q) : o.wpIn (F.inRound l) n P a w K Q := by
  obtain ⟨h1, h2⟩ := h
  refine ⟨h1, ?_⟩
  rw [hro] at h2
  rw [Fence.inRound_round, Oper.semAt_some l _ _ hnd]
  exact uponIn_round l o a K _ h2
theorem any_inRound (l : Nat) (hro : F.round = none) (hnd : ∀ (i : Nat) (o : Oper), ops[i]? = some o → ∀ c, o.op ≠ .defer c) : ∀ (fuel : Nat) (listed : Array Bool) (a : Act) (w : World), wpAnyIn F n P md ops Q fuel listed a w → wpAnyIn (F.inRound l) n P md ops Q fuel listed a w
  | 0, _, _, _, h => h
  | fuel + 1, listed, a, w, h => by
    refine ⟨h.1, fun i hi => ?_⟩
    have hx := h.2 i hi
    unfold wpOpIn at hx ⊢
    cases ho : ops[i]? with
    | none =>
      rw [ho] at hx
      exact any_inRound l hro hnd fuel _ _ _ hx
    | some o =>
      rw [ho] at hx
      dsimp only at hx ⊢
      split at hx
      · rename_i hw
        rw [if_pos hw]
        exact wpIn_round l hro (hnd i o ho) (Oper.wpIn_mono (fun a w h => any_inRound l hro hnd fuel _ a w h) hx)
      · rename_i hw
        rw [if_neg hw]
        exact ⟨hx.1, any_inRound l hro hnd fuel _ _ _ hx.2⟩
theorem no_defer {L : List Oper} (hd : L.all (fun o => match o.op with | .defer _ => false | _ => true) = true) : ∀ (i : Nat) (o : Oper), L.toArray[i]? = some o → ∀ c, o.op ≠ .defer c := by
  intro i o ho c hc
  have hm : o ∈ L := by
    have : L[i]? = some o := by simpa using ho
    exact List.mem_of_getElem? this
  have := List.all_eq_true.1 hd o hm
  rw [hc] at this
  cases this
theorem region_round (C : World → Prop) (l : Nat) {id : Nat} {L : List Oper} {a : Act} {w : World} (hro : F.round = none) (hm : P.follows .mixedOrders = true) (hB : Region.lexB .any L.toArray = true) (hd : L.all (fun o => match o.op with | .defer _ => false | _ => true) = true) (hC : C w.drew)
    (h : wpQuietIn F n P L.toArray C (fun a' => ∀ w', C w' → Q .normal a' w') L a) : (Code.region id L.toArray true).wpIn (F.inRound l) n P Q a w := by
  have hB' := hB
  simp only [Region.lexB, Bool.and_eq_true] at hB
  refine wpIn_region_any hm (any_inRound l hro ?_ _ _ _ _ (wpAnyIn_of_quiet (Q := fun a' => ∀ w', C w' → Q .normal a' w') hro (fun _ w' hw' h => h w' hw') _ _ _ _ hC ?_))
  · intro i o ho c hc
    have hm : o ∈ L := by
      have : L[i]? = some o := by simpa using ho
      exact List.mem_of_getElem? this
    have := List.all_eq_true.1 hd o hm
    rw [hc] at this
    cases this
  · have := wpAnyQIn_lex (F := F) (n := n) (C := C) (md := .any) hB.1 L 0 (Array.replicate L.length false) a (by simp) (by simpa using hB.2) h
    simpa using this
end
section
variable {F : Fence} {n : Nat} {P : Program} {ops : Array Oper} {C : World → Prop} {Q : Act → Prop} {a : Act} {o : Oper} {rest : List Oper}
theorem qi_val {v : Value} (hn : ∀ c, o.op ≠ .call c) (hw : Region.wanted o (yielded ops a.tmps) = true) (hr : ∀ w, C w → (execOp a.eval o).run P w = .ok (.value v) w) (h : wpQuietIn F n P ops C Q rest (a.put o.dst v)) : wpQuietIn F n P ops C Q (o :: rest) a := by
  refine ⟨askedIn_plain hn, ?_⟩
  rw [if_pos hw]
  exact ⟨v, fun w hC => by unfold Oper.quietAtIn; rw [hr w hC]; exact ⟨rfl, rfl⟩, h⟩
theorem qi_call {v : Value} {f : FuncId} {args : Array Value} (ha : o.askedIn F P a C) (hw : Region.wanted o (yielded ops a.tmps) = true) (hr : ∀ w, C w → (execOp a.eval o).run P w = .ok (.enter f args) w) (hd : F.depth.isSome = true → 1 ≤ n) (hc : ∀ w, C w → CallsIn F (n - 1) P f args w fun e w' => e = .returned v ∧ C w')
    (h : wpQuietIn F n P ops C Q rest (a.put o.dst v)) : wpQuietIn F n P ops C Q (o :: rest) a := by
  refine ⟨ha, ?_⟩
  rw [if_pos hw]
  exact ⟨v, fun w hC => by unfold Oper.quietAtIn; rw [hr w hC]; exact ⟨rfl, hd, hc w hC⟩, h⟩
end
end Go.Proofs.YtjkhkohlejkdlaaDoor
