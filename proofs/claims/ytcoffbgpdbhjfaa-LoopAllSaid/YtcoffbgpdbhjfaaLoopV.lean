/- loop: the document's Next and Put, as queues by kind. -/
import Derived.Test.YtcoffbgpdbhjfaaLoopU
namespace Go.Proofs.Ytcoffbgpdbhjfaa
open Go.Conc Go.RowKit
set_option linter.unusedVariables false
set_option linter.unusedSimpArgs false

/-- What waits, by kind. -/
def kinds (L : List Evt) : Que := (ofK 1 L, ofK 2 L, ofK 3 L)

theorem mem_ofK {k : Int} {L : List Evt} {i : Nat} (hi : i < L.length) (hk : (L.getD i zeroE).kind = k) : ofK k L ≠ [] := by
  intro h
  have hm : L[i] ∈ ofK k L := by
    unfold ofK
    rw [List.mem_filter]
    refine ⟨List.getElem_mem hi, ?_⟩
    have e : L.getD i zeroE = L[i] := by simp [List.getD, hi]
    rw [e] at hk
    simpa using hk
  rw [h] at hm
  simp at hm

theorem first_none {k : Int} {L : List Evt} (h : ofK k L = []) : ∀ z, FirstIs k L z → z = -1 := by
  rintro z (⟨rfl, _⟩ | ⟨i, rfl, hi, hk, _⟩)
  · rfl
  · exact absurd h (mem_ofK hi hk)

theorem first_uniq {k : Int} {L : List Evt} (h : ofK k L ≠ []) : ∃ i, i < L.length ∧ (L.getD i zeroE).kind = k ∧ ofK k (L.take i) = [] ∧ ∀ z, FirstIs k L z → z = (i : Int) := by
  have key : ∀ i j, i < L.length → (L.getD i zeroE).kind = k → ofK k (L.take j) = [] → j ≤ i := by
    intro i j hi hk h0
    rcases Nat.lt_or_ge i j with hlt | hge
    · exfalso
      refine mem_ofK (L := L.take j) (i := i) (k := k) (by simp; omega) ?_ h0
      have e : (L.take j).getD i zeroE = L.getD i zeroE := by simp [List.getD, List.getElem?_take, hlt]
      rw [e]; exact hk
    · exact hge
  have ex : ∀ n, n ≤ L.length → ofK k (L.take n) = [] ∨ ∃ i, i < n ∧ (L.getD i zeroE).kind = k ∧ ofK k (L.take i) = [] := by
    intro n
    induction n with
    | zero => intro _; left; simp [ofK]
    | succ n ih =>
      intro hn
      rcases ih (by omega) with h0 | ⟨i, h1, h2, h3⟩
      · by_cases hk : (L.getD n zeroE).kind = k
        · exact .inr ⟨n, by omega, hk, h0⟩
        · left
          rw [ofK_take (by omega), if_neg hk, h0]; rfl
      · exact .inr ⟨i, by omega, h2, h3⟩
  rcases ex L.length (Nat.le_refl _) with h0 | ⟨i, h1, h2, h3⟩
  · rw [List.take_length] at h0
    exact absurd h0 h
  · refine ⟨i, h1, h2, h3, ?_⟩
    rintro z (⟨_, h0⟩ | ⟨j, rfl, hj, hk, h0⟩)
    · exact absurd h0 h
    · have a := key i j h1 h2 h0
      have b := key j i hj hk h3
      have : j = i := by omega
      rw [this]

/-- Behind a step of the document's box. -/
def RefDone (w : World) (B0 rb room : Nat) (A : Option Addr) (n c : Nat) (L : List Evt) (q : Que) (w' : World) : Prop :=
  ∃ L', Rs w B0 rb room A n c L' w' ∧ kinds L' = q ∧ L'.length ≤ L.length + 1

theorem refnext_any {w : World} {B0 rb room n c : Nat} {A : Option Addr} {L : List Evt} (h : Rb w B0 rb room A n c L) (hn : n ≤ 1000000) (hB : B0 ≤ w.heap.size) :
    Calls Try.prog 12 #[ptr rb] w fun e w' => e = .returned (.tuple #[ev (nextQ (kinds L)).1, .bool (nextQ (kinds L)).2.1]) ∧ RefDone w B0 rb room A n c L (nextQ (kinds L)).2.2 w' := by
  have short (i : Nat) (hi : i < L.length) : (L.take i ++ L.drop (i + 1)).length ≤ L.length + 1 := by simp; omega
  by_cases h3 : ofK 3 L = []
  · by_cases h1 : ofK 1 L = []
    · by_cases h2 : ofK 2 L = []
      · refine (refnext_0 h hn (first_none h3) (first_none h1) (first_none h2)).mono fun e w' ⟨he, hb⟩ => ?_
        have eq : nextQ (kinds L) = (zeroE, false, kinds L) := by unfold kinds; rw [h1, h2, h3]; rfl
        rw [eq]
        exact ⟨he, L, rs_same h hb, rfl, by omega⟩
      · obtain ⟨i, hi, hk, h0, hu⟩ := first_uniq h2
        refine (refnext_2 h hn hB i _ hi rfl (first_none h3) (first_none h1) hu).mono fun e w' ⟨he, hr⟩ => ?_
        obtain ⟨e1, e2⟩ := first_out hi hk h0
        have eq : nextQ (kinds L) = (L.getD i zeroE, true, kinds (L.take i ++ L.drop (i + 1))) := by
          unfold kinds
          rw [e2 1 (by decide), e2 3 (by decide), h1, h3, e1]
          rfl
        rw [eq]
        exact ⟨he, _, hr, rfl, short i hi⟩
    · obtain ⟨i, hi, hk, h0, hu⟩ := first_uniq h1
      refine (refnext_1 h hn hB i _ hi rfl (first_none h3) hu).mono fun e w' ⟨he, hr⟩ => ?_
      obtain ⟨e1, e2⟩ := first_out hi hk h0
      have eq : nextQ (kinds L) = (L.getD i zeroE, true, kinds (L.take i ++ L.drop (i + 1))) := by
        unfold kinds
        rw [e2 2 (by decide), e2 3 (by decide), h3, e1]
        rfl
      rw [eq]
      exact ⟨he, _, hr, rfl, short i hi⟩
  · obtain ⟨i, hi, hk, h0, hu⟩ := first_uniq h3
    refine (refnext_3 h hn hB i _ hi rfl hu).mono fun e w' ⟨he, hr⟩ => ?_
    obtain ⟨e1, e2⟩ := first_out hi hk h0
    have eq : nextQ (kinds L) = (L.getD i zeroE, true, kinds (L.take i ++ L.drop (i + 1))) := by
      unfold kinds
      rw [e2 1 (by decide), e2 2 (by decide), e1]
      rfl
    rw [eq]
    exact ⟨he, _, hr, rfl, short i hi⟩

theorem pure_kind {x : Evt} (h1 : 1 ≤ x.kind) (h3 : x.kind ≤ 3) : (pure_ x).kind = x.kind := by
  unfold pure_
  by_cases a : x.kind = 1
  · rw [if_pos a, a]
  · rw [if_neg a]
    by_cases b : x.kind = 2
    · rw [if_pos b, b]
    · rw [if_neg b]
      show (3 : Int) = x.kind
      omega
theorem ofK_one {k : Int} {L : List Evt} {y : Evt} : ofK k (L ++ [y]) = if y.kind = k then ofK k L ++ [y] else ofK k L := by
  rw [ofK_append]
  by_cases h : y.kind = k
  · rw [if_pos h]; simp [ofK, h]
  · rw [if_neg h]; simp [ofK, h]

theorem refput_any {w : World} {B0 rb room n c : Nat} {A : Option Addr} {L : List Evt} (h : Rb w B0 rb room A n c L) (hn : n ≤ 1000000) (hB : B0 ≤ w.heap.size) (x : Evt) :
    Calls Try.prog 13 #[ptr rb, ev x] w fun e w' => e = .returned (.bool (putQ room (kinds L) x).1) ∧ RefDone w B0 rb room A n c L (putQ room (kinds L) x).2 w' := by
  by_cases hin : 1 ≤ x.kind ∧ x.kind ≤ 3
  · by_cases hf : room ≤ (ofK x.kind L).length
    · refine (refput_full h hn x hin.1 hin.2 hf).mono fun e w' ⟨he, hb⟩ => ?_
      have eq : putQ room (kinds L) x = (false, kinds L) := by
        unfold putQ kinds
        obtain e | e | e : x.kind = 1 ∨ x.kind = 2 ∨ x.kind = 3 := by omega
        · rw [e] at hf ⊢; rw [if_pos rfl, if_neg (by simp; omega)]
        · rw [e] at hf ⊢; rw [if_neg (by decide), if_pos rfl, if_neg (by simp; omega)]
        · rw [e] at hf ⊢; rw [if_neg (by decide), if_neg (by decide), if_pos rfl, if_neg (by simp; omega)]
      rw [eq]
      exact ⟨he, L, rs_same h hb, rfl, by omega⟩
    · have hp := pure_kind hin.1 hin.2
      have eq : putQ room (kinds L) x = (true, kinds (L ++ [pure_ x])) := by
        unfold putQ kinds
        rw [ofK_one, ofK_one, ofK_one, hp]
        obtain e | e | e : x.kind = 1 ∨ x.kind = 2 ∨ x.kind = 3 := by omega
        · rw [e] at hf ⊢; rw [if_pos rfl, if_pos (by simp; omega)]; simp
        · rw [e] at hf ⊢; rw [if_neg (by decide), if_pos rfl, if_pos (by simp; omega)]; simp
        · rw [e] at hf ⊢; rw [if_neg (by decide), if_neg (by decide), if_pos rfl, if_pos (by simp; omega)]; simp
      rw [eq]
      obtain e | e | e : x.kind = 1 ∨ x.kind = 2 ∨ x.kind = 3 := by omega
      · rw [e] at hf
        exact (refput_1 h hn hB x e (by omega)).mono fun _ w' ⟨he, hr⟩ => ⟨he, _, hr, rfl, by simp⟩
      · rw [e] at hf
        exact (refput_2 h hn hB x e (by omega)).mono fun _ w' ⟨he, hr⟩ => ⟨he, _, hr, rfl, by simp⟩
      · rw [e] at hf
        exact (refput_3 h hn hB x e (by omega)).mono fun _ w' ⟨he, hr⟩ => ⟨he, _, hr, rfl, by simp⟩
  · refine (refput_out h x (by omega)).mono fun e w' ⟨he, hb⟩ => ?_
    have eq : putQ room (kinds L) x = (false, kinds L) := by
      unfold putQ
      rw [if_neg (by omega), if_neg (by omega), if_neg (by omega)]
    rw [eq]
    exact ⟨he, L, rs_same h hb, rfl, by omega⟩
end Go.Proofs.Ytcoffbgpdbhjfaa
