/- macro: what a name is expanded to: pure. -/
import Derived.Test.YtgdfcojgifgjcaaMcF
namespace Go.Proofs.Ytgdfcojgifgjcaa
open Go.RowKit Go.Maps
set_option linter.unusedVariables false
set_option linter.unusedSimpArgs false

/-- A key as it is read; a step. -/
structure Ky where
  k : Int
  r : Int
  m : Bool
  t : List Int
structure MSt where
  key : Ky
  call : Bool
  nm : Int
/-- Steps are taken, one behind the other: an error, how many were taken, the keys. -/
def loopX (g : Int → Nat → List Ky → Nat × Nat × List Ky) : List MSt → Nat → List Ky → Nat × Nat × List Ky
  | [], t, ks => (0, t, ks)
  | s :: M, t, ks => if t = 20000 then (7, t, ks) else
    if s.call then (if (g s.nm (t + 1) ks).1 = 0 then loopX g M (g s.nm (t + 1) ks).2.1 (g s.nm (t + 1) ks).2.2 else g s.nm (t + 1) ks)
    else loopX g M (t + 1) (ks ++ [s.key])
/-- A name is expanded, at most d deep. -/
def exX (F : Int → Option (List MSt)) : Nat → List Int → Int → Nat → List Ky → Nat × Nat × List Ky
  | 0, _, nm, t, ks => match F nm with
    | none => (5, t, ks)
    | some _ => (6, t, ks)
  | d + 1, op, nm, t, ks => match F nm with
    | none => (5, t, ks)
    | some M => if nm ∈ op then (6, t, ks) else loopX (exX F d (nm :: op)) M t ks
/-- There are at most d names that are not open. -/
def Cov (F : Int → Option (List MSt)) (d : Nat) (op : List Int) : Prop := ∃ N : List Int, N.length ≤ d ∧ ∀ s, (F s).isSome = true → s ∉ op → s ∈ N
theorem Cov.step {F : Int → Option (List MSt)} {d : Nat} {op : List Int} {nm : Int} (h : Cov F d op) (hk : (F nm).isSome = true) (hn : nm ∉ op) : ∃ d', d = d' + 1 ∧ Cov F d' (nm :: op) := by
  obtain ⟨N, hl, hc⟩ := h
  have hm := hc nm hk hn
  have hpos := List.length_pos_of_mem hm
  refine ⟨d - 1, by omega, N.erase nm, by rw [List.length_erase_of_mem hm]; omega, fun s hs hso => ?_⟩
  simp only [List.mem_cons, not_or] at hso
  exact (List.mem_erase_of_ne hso.1).2 (hc s hs hso.2)
theorem loopX_le {g : Int → Nat → List Ky → Nat × Nat × List Ky} (hg : ∀ nm t ks, t ≤ 20000 → ks.length ≤ t → (g nm t ks).2.1 ≤ 20000 ∧ (g nm t ks).2.2.length ≤ (g nm t ks).2.1) :
    ∀ (M : List MSt) (t : Nat) (ks : List Ky), t ≤ 20000 → ks.length ≤ t → (loopX g M t ks).2.1 ≤ 20000 ∧ (loopX g M t ks).2.2.length ≤ (loopX g M t ks).2.1
  | [], t, ks, ht, hk => ⟨ht, hk⟩
  | s :: M, t, ks, ht, hk => by
    unfold loopX
    by_cases h : t = 20000
    · rw [if_pos h]; exact ⟨ht, hk⟩
    · rw [if_neg h]
      have h1 := hg s.nm (t + 1) ks (by omega) (by omega)
      split
      · split
        · exact loopX_le hg M _ _ h1.1 h1.2
        · exact h1
      · exact loopX_le hg M _ _ (by omega) (by simp; omega)
theorem exX_le (F : Int → Option (List MSt)) : ∀ (d : Nat) (op : List Int) (nm : Int) (t : Nat) (ks : List Ky), t ≤ 20000 → ks.length ≤ t → (exX F d op nm t ks).2.1 ≤ 20000 ∧ (exX F d op nm t ks).2.2.length ≤ (exX F d op nm t ks).2.1
  | 0, op, nm, t, ks, ht, hk => by
    unfold exX
    split <;> exact ⟨ht, hk⟩
  | d + 1, op, nm, t, ks, ht, hk => by
    unfold exX
    split
    · exact ⟨ht, hk⟩
    · split
      · exact ⟨ht, hk⟩
      · exact loopX_le (fun nm t ks h1 h2 => exX_le F d _ nm t ks h1 h2) _ _ _ ht hk
end Go.Proofs.Ytgdfcojgifgjcaa
