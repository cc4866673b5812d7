/- macro: books. -/
import Derived.Test.YtgdfcojgifgjcaaMcD
namespace Go.Proofs.Ytgdfcojgifgjcaa
open Go.RowKit Go.Maps
set_option linter.unusedVariables false
set_option linter.unusedSimpArgs false
set_option maxRecDepth 100000

theorem lawR : Keyed Try.prog 21 := int_keyed Try.underlying21
theorem key_r (r : Int) (h : (Lit.int .i32 r).wf = true) : keyOf Try.prog 21 (.int .i32 r) = some (.int .i32 r) := keyOf_int_mk Try.underlying21 h
/-- What was set last under a name. -/
def lastB : List (Int × Sv) → Int → Option Sv
  | [], _ => none
  | x :: l, s => match lastB l s with
    | some c => some c
    | none => if x.1 = s then some x.2 else none
theorem lastB_snoc (L : List (Int × Sv)) (x : Int × Sv) (s : Int) : lastB (L ++ [x]) s = if x.1 = s then some x.2 else lastB L s := by
  induction L with
  | nil => simp [lastB]
  | cons y L ih =>
    simp only [List.cons_append, lastB, ih]
    by_cases h : x.1 = s
    · simp [h]
    · simp [h]
def sv0 : Sv := (none, 0, 0)
/-- A map that tells what was set: n names. -/
def BookOf (w : World) (v : Value) (n : Nat) (L : List (Int × Sv)) : Prop :=
  (v = .map none ∧ L = [] ∧ n = 0) ∨ ∃ b D, v = .map (some b) ∧ w.ownsMap Try.prog 21 elS b L.length D ∧ Maps.size D = n ∧
    ∀ s kl, keyOf Try.prog 21 (.int .i32 s) = some kl → D.atKey kl (svD sv0) = svD ((lastB L s).getD sv0) ∧ Maps.has D kl = (lastB L s).isSome
theorem ownsMap_below {w w' : World} {b n : Nat} {D : DataW Unit} (h : w.ownsMap Try.prog 21 elS b n D) (hb : Below w.heap.size w w') : w'.ownsMap Try.prog 21 elS b n D := by
  have hlt := h.lt
  obtain ⟨es, clock, hh, F, hs, hD⟩ := h
  exact ⟨es, clock, (hb.block _ hlt).trans hh, F, hs, hD⟩
theorem BookOf.later {w w' : World} {v : Value} {n : Nat} {L : List (Int × Sv)} (h : BookOf w v n L) (hb : Below w.heap.size w w') : BookOf w' v n L := by
  rcases h with h | ⟨b, D, h1, h2, hq, h3⟩
  · exact .inl h
  · exact .inr ⟨b, D, h1, ownsMap_below h2 hb, hq, h3⟩
theorem zeroS (w : World) : (zeroValue 33).run Try.prog w = .ok (.slice none 0 0) w := by kernel_rfl
theorem book_look {w : World} {v : Value} {n : Nat} {L : List (Int × Sv)} (h : BookOf w v n L) {s : Int} (hs : (Lit.int .i32 s).wf = true) :
    (Instr.lookup 22 v (.int .i32 s) true).run Try.prog w = .ok (.tuple #[svV ((lastB L s).getD sv0), .bool (lastB L s).isSome]) w := by
  rcases h with ⟨rfl, rfl, rfl⟩ | ⟨b, D, rfl, h2, hq, h3⟩
  · kernel_rfl
  · have hk := key_r s hs
    obtain ⟨ha, hh⟩ := h3 s _ hk
    obtain ⟨u, ps, hrun, hv⟩ := h2.look_ok lawR Try.underlying22 (zeroS _) (elS_sv sv0) hk
    rw [ha] at hv
    obtain rfl := elS_inv hv
    rw [hrun, hh]
theorem book_len {w : World} {v : Value} {n : Nat} {L : List (Int × Sv)} (h : BookOf w v n L) (ty : TypeId) : (Builtin.len_ #[22] ty #[v]).run Try.prog w = .ok (.int .i64 n) w := by
  rcases h with ⟨rfl, rfl, rfl⟩ | ⟨b, D, rfl, h2, hq, h3⟩
  · exact Maps.len_nil Try.underlying22 ty
  · rw [h2.len Try.underlying22 ty, hq]
/-- One name more, or a name anew. -/
def cntB (n : Nat) (L : List (Int × Sv)) (s : Int) : Nat := if (lastB L s).isSome then n else n + 1
theorem BookOf.put {w w' : World} {b n : Nat} {L : List (Int × Sv)} {D : DataW Unit} (h2 : w.ownsMap Try.prog 21 elS b L.length D) (hq : Maps.size D = n)
    (h3 : ∀ s kl, keyOf Try.prog 21 (.int .i32 s) = some kl → D.atKey kl (svD sv0) = svD ((lastB L s).getD sv0) ∧ Maps.has D kl = (lastB L s).isSome)
    {t : Int} (ht : (Lit.int .i32 t).wf = true) {c : Sv} (h' : w'.ownsMap Try.prog 21 elS b (L.length + 1) (D.put (.int .i32 t) (svD c))) : BookOf w' (.map (some b)) (cntB n L t) (L ++ [(t, c)]) := by
  have hm := h2.isMap
  have hk := key_r t ht
  refine .inr ⟨b, _, rfl, by simpa using h', ?_, fun s kl' hk' => ?_⟩
  · rw [Maps.size_put (h2.tidy lawR), (h3 t _ hk).2, hq]
    rfl
  rw [lastB_snoc]
  by_cases e : t = s
  · subst e
    obtain rfl : Lit.int .i32 t = kl' := Option.some.inj (hk.symm.trans hk')
    rw [if_pos rfl, atKey_put_same hm (lawR.key hk), has_put_same hm (lawR.key hk)]
    exact ⟨rfl, rfl⟩
  · have hne : kl' ≠ .int .i32 t := fun e' => e (by
      have := lawR.inj hk (e' ▸ hk')
      simpa using this)
    rw [if_neg e, atKey_put_other hne, has_put_other hne]
    exact h3 s kl' hk'
theorem book_nil3 : ∀ s kl, keyOf Try.prog 21 (.int .i32 s) = some kl → (DataW.map [] : DataW Unit).atKey kl (svD sv0) = svD ((lastB [] s).getD sv0) ∧ Maps.has (DataW.map [] : DataW Unit) kl = (lastB [] s).isSome := fun s kl _ => ⟨rfl, rfl⟩
end Go.Proofs.Ytgdfcojgifgjcaa
