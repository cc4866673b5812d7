/- macro: macros that call one another twice: pure. -/
import Derived.Test.YtgdfcojgifgjcaaMcK
namespace Go.Proofs.Ytgdfcojgifgjcaa
open Go.RowKit Go.Maps
set_option linter.unusedVariables false
set_option linter.unusedSimpArgs false
set_option maxRecDepth 100000

def call1 (i : Int) : MSt := st0 0 0 true i
def base1 : List MSt := [st0 1 120 false 0]
/-- Names 0 to n. -/
def chainF : Nat → Int → Option (List MSt)
  | 0 => setF (fun _ => none) 0 base1
  | n + 1 => setF (chainF n) ((n : Int) + 1) [call1 n, call1 n]
def stp (B : List MSt) : Nat → List MSt
  | 0 => B
  | i + 1 => [call1 i, call1 i]
theorem chain_at : ∀ (n i : Nat), i ≤ n → chainF n (i : Int) = some (stp base1 i)
  | 0, i, h => by
    obtain rfl : i = 0 := by omega
    rfl
  | n + 1, i, h => by
    unfold chainF setF
    by_cases e : i = n + 1
    · subst e
      rw [if_pos (by omega)]
      rfl
    · rw [if_neg (by omega)]
      exact chain_at n i (by omega)
def cost (c : Nat) : Nat → Nat
  | 0 => c
  | i + 1 => 2 + 2 * cost c i
def keysOf (K : List Ky) : Nat → List Ky
  | 0 => K
  | i + 1 => keysOf K i ++ keysOf K i
theorem keysOf_len (K : List Ky) : ∀ i, (keysOf K i).length = K.length * 2 ^ i
  | 0 => by simp [keysOf]
  | i + 1 => by
    simp only [keysOf, List.length_append, keysOf_len K i, Nat.pow_succ, ← Nat.mul_assoc]
    omega
theorem cost_mono (c : Nat) : ∀ i k, cost c i ≤ cost c (i + k)
  | i, 0 => Nat.le_refl _
  | i, k + 1 => by
    have h := cost_mono c i k
    rw [← Nat.add_assoc]
    show _ ≤ 2 + 2 * cost c (i + k)
    omega
/-- What is told of a name's expansion. -/
def Says (r : Nat × Nat × List Ky) (t c : Nat) (ks K : List Ky) : Prop := (t + c ≤ 20000 → r = (0, t + c, ks ++ K)) ∧ (20000 < t + c → r.1 = 7)
theorem ex_chain {F : Int → Option (List MSt)} {B : List MSt} {K : List Ky} {c n : Nat} (hF : ∀ i : Nat, i ≤ n → F i = some (stp B i)) (hB : ∀ g t ks, t ≤ 20000 → Says (loopX g B t ks) t c ks K) :
    ∀ (i d : Nat) (op : List Int) (t : Nat) (ks : List Ky), i ≤ n → i < d → (∀ s ∈ op, (i : Int) < s) → t ≤ 20000 → Says (exX F d op i t ks) t (cost c i) ks (keysOf K i)
  | 0, d + 1, op, t, ks, hi, hd, ho, ht => by
    rw [exX_step (hF 0 hi) (fun h => by have := ho _ h; omega)]
    exact hB _ t ks ht
  | i + 1, d + 1, op, t, ks, hi, hd, ho, ht => by
    rw [exX_step (hF (i + 1) hi) (fun h => by have := ho _ h; omega)]
    obtain ⟨g, hg⟩ : ∃ g, exX F d (((i + 1 : Nat) : Int) :: op) = g := ⟨_, rfl⟩
    have ih : ∀ t ks, t ≤ 20000 → Says (g i t ks) t (cost c i) ks (keysOf K i) := fun t ks ht => by
      rw [← hg]
      refine ex_chain hF hB i d _ t ks (by omega) (by omega) (fun s hs => ?_) ht
      rcases List.mem_cons.1 hs with rfl | h
      · omega
      · have := ho s h
        omega
    rw [hg]
    show Says (loopX g [call1 i, call1 i] t ks) t (2 + 2 * cost c i) ks (keysOf K i ++ keysOf K i)
    obtain ⟨C, hC⟩ : ∃ C, cost c i = C := ⟨_, rfl⟩
    rw [hC] at ih ⊢
    have e1 : (call1 (i : Int)).nm = i := rfl
    have e2 : (call1 (i : Int)).call = true := rfl
    by_cases h1 : t = 20000
    · refine ⟨fun h => by omega, fun _ => ?_⟩
      rw [loopX, if_pos h1]
    · rw [loopX, if_neg h1, if_pos e2, e1]
      obtain ⟨a1, a2⟩ := ih (t + 1) ks (by omega)
      by_cases h2 : t + 1 + C ≤ 20000
      · rw [a1 h2, if_pos rfl]
        by_cases h3 : t + 1 + C = 20000
        · refine ⟨fun h => by omega, fun _ => ?_⟩
          rw [loopX, if_pos h3]
        · rw [loopX, if_neg h3, if_pos e2, e1]
          obtain ⟨b1, b2⟩ := ih (t + 1 + C + 1) (ks ++ keysOf K i) (by omega)
          by_cases h4 : t + 1 + C + 1 + C ≤ 20000
          · rw [b1 h4, if_pos rfl]
            refine ⟨fun _ => ?_, fun h => by omega⟩
            show ((0, t + 1 + C + 1 + C, ks ++ keysOf K i ++ keysOf K i) : Nat × Nat × List Ky) = _
            rw [List.append_assoc, show t + 1 + C + 1 + C = t + (2 + 2 * C) by omega]
          · have h7 := b2 (by omega)
            have h8 : ¬ (g (i : Int) (t + 1 + C + 1) (ks ++ keysOf K i)).1 = 0 := by omega
            rw [if_neg h8]
            exact ⟨fun h => by omega, fun _ => h7⟩
      · have h7 := a2 (by omega)
        have h8 : ¬ (g (i : Int) (t + 1) ks).1 = 0 := by omega
        rw [if_neg h8]
        exact ⟨fun h => by omega, fun _ => h7⟩
theorem says_base (g : Int → Nat → List Ky → Nat × Nat × List Ky) (t : Nat) (ks : List Ky) (ht : t ≤ 20000) : Says (loopX g base1 t ks) t 1 ks [⟨1, 120, false, []⟩] := by
  unfold base1
  by_cases h : t = 20000
  · rw [loopX, if_pos h]
    exact ⟨fun h => by omega, fun _ => rfl⟩
  · rw [loopX, if_neg h]
    exact ⟨fun _ => rfl, fun h => by omega⟩
theorem says_nil (g : Int → Nat → List Ky → Nat × Nat × List Ky) (t : Nat) (ks : List Ky) (ht : t ≤ 20000) : Says (loopX g [] t ks) t 0 ks [] := by
  refine ⟨fun _ => ?_, fun h => by omega⟩
  rw [List.append_nil]
  rfl
theorem chain_first {n : Nat} {L : List (Int × Sv)} (hL : L.length = n + 1) : (n ≤ 12 → exX (chainF n) L.length [] n 0 [] = (0, cost 1 n, keysOf [⟨1, 120, false, []⟩] n)) ∧ (12 < n → (exX (chainF n) L.length [] n 0 []).1 = 7) := by
  have h := ex_chain (F := chainF n) (n := n) (fun i hi => chain_at n i hi) (fun g t ks ht => says_base g t ks ht) n L.length [] 0 [] (Nat.le_refl _) (by omega) (fun s hs => by simp at hs) (by omega)
  refine ⟨fun hn => ?_, fun hn => h.2 ?_⟩
  · have h12 : cost 1 12 ≤ 20000 := by decide
    have := cost_mono 1 n (12 - n)
    rw [show n + (12 - n) = 12 by omega] at this
    have := h.1 (by omega)
    rw [Nat.zero_add] at this
    exact this
  · have h13 : 20000 < cost 1 13 := by decide
    have := cost_mono 1 13 (n - 13)
    rw [show 13 + (n - 13) = n by omega] at this
    omega
theorem chain_last {L : List (Int × Sv)} (hL : L.length = 33) : (exX (setF (chainF 31) 0 []) L.length [] 31 0 []).1 = 7 := by
  have h := ex_chain (F := setF (chainF 31) 0 []) (B := []) (n := 31) (fun i hi => by
    unfold setF
    by_cases e : i = 0
    · subst e; rfl
    · rw [if_neg (by omega), chain_at 31 i hi]
      obtain ⟨j, rfl⟩ : ∃ j, i = j + 1 := ⟨i - 1, by omega⟩
      rfl) (fun g t ks ht => says_nil g t ks ht) 31 L.length [] 0 [] (Nat.le_refl _) (by omega) (fun s hs => by simp at hs) (by omega)
  refine h.2 ?_
  have h14 : 20000 < cost 0 14 := by decide
  have : cost 0 14 ≤ cost 0 31 := cost_mono 0 14 17
  show 20000 < 0 + cost 0 31
  omega
end Go.Proofs.Ytgdfcojgifgjcaa
