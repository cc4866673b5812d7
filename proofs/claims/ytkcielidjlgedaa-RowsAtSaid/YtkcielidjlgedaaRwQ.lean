/- rows: the parts that are taken. -/
import Derived.Test.YtkcielidjlgedaaRwP
namespace Go.Proofs.Ytkcielidjlgedaa
set_option linter.unusedVariables false
set_option linter.unusedSimpArgs false

structure OQ (C : List Int) (D : List Span) (fr to : Nat) (Q : List Nat) : Prop where
  nodup : Q.Nodup
  bd : ∀ q ∈ Q, q + 1 < C.length
  a : ∀ q ∈ Q, cov D (cAt C q) ∨ (fr ≤ q ∧ q < to)
  b : ∀ q, q + 1 < C.length → cov D (cAt C q) → q ∈ Q

theorem OQ.start (C : List Int) : OQ C [] 0 0 [] := ⟨List.nodup_nil, by simp, by simp, fun q _ ⟨s, hs, _⟩ => by cases hs⟩
theorem OQ.wide {C : List Int} {D : List Span} {Q : List Nat} (h : OQ C D 0 0 Q) (fr to : Nat) : OQ C D fr to Q := ⟨h.nodup, h.bd, fun q hq => (h.a q hq).elim .inl fun h => by omega, h.b⟩
theorem OQ.push {C : List Int} {D : List Span} {Q : List Nat} {fr to i : Nat} (h : OQ C D fr to Q) (hi : i ∉ Q) (h1 : fr ≤ i) (h2 : i < to) (h3 : to < C.length) : OQ C D fr to (Q ++ [i]) := by
  refine ⟨?_, ?_, ?_, fun q h4 h5 => by simp [h.b q h4 h5]⟩
  · rw [List.nodup_append]
    refine ⟨h.nodup, by simp, fun a ha b hb => ?_⟩
    simp at hb
    subst hb
    intro e
    exact hi (e ▸ ha)
  · intro q hq
    rcases List.mem_append.1 hq with hq | hq
    · exact h.bd q hq
    · simp at hq; omega
  · intro q hq
    rcases List.mem_append.1 hq with hq | hq
    · exact h.a q hq
    · simp at hq; subst hq; exact .inr ⟨h1, h2⟩
theorem OQ.seg {C : List Int} {D R : List Span} {x : Span} {Q : List Nat} {fr to i : Nat} (h : OQ C D fr to Q) (hi : i ∉ Q) (hm : i + 1 < C.length) (h1 : x.f ≤ cAt C i) (h2 : cAt C i ≤ x.t) : Go.Proofs.Ytkcielidjlgedaa.seg (D ++ x :: R) C i = ⟨cAt C i, cAt C (i + 1) - 1, x.a, x.b⟩ := by
  have hv : val D (cAt C i) = none := by
    cases hv : val D (cAt C i) with
    | none => rfl
    | some p => exact absurd (h.b i hm (cov_val.2 (by rw [hv]; rfl))) hi
  have : val (D ++ x :: R) (cAt C i) = some (x.a, x.b) := by
    rw [val_append, hv]
    unfold val
    rw [List.find?_cons_of_pos (by simp [Span.has]; omega)]
    rfl
  simp only [Go.Proofs.Ytkcielidjlgedaa.seg, this]
  rfl
theorem cov_snoc {D : List Span} {x : Span} {r : Int} : cov (D ++ [x]) r ↔ cov D r ∨ (x.f ≤ r ∧ r ≤ x.t) := by
  unfold cov
  constructor
  · rintro ⟨s, hs, h⟩
    rcases List.mem_append.1 hs with hs | hs
    · exact .inl ⟨s, hs, h⟩
    · simp at hs; subst hs; exact .inr h
  · rintro (⟨s, hs, h⟩ | h)
    · exact ⟨s, by simp [hs], h⟩
    · exact ⟨x, by simp, h⟩
theorem OQ.done {C : List Int} {D : List Span} {x : Span} {Q : List Nat} {fr to : Nat} (hC : C.Pairwise (· < ·)) (h : OQ C D fr to Q) (hto : to < C.length) (hfr : fr < C.length) (h1 : cAt C fr = x.f) (h2 : cAt C to = x.t + 1) (hall : ∀ q, fr ≤ q → q < to → q ∈ Q) : OQ C (D ++ [x]) 0 0 Q := by
  have key : ∀ q, q < C.length → ((x.f ≤ cAt C q ∧ cAt C q ≤ x.t) ↔ (fr ≤ q ∧ q < to)) := by
    intro q hq
    constructor
    · rintro ⟨a, b⟩
      constructor
      · rcases Nat.lt_or_ge q fr with h' | h'
        · have := cAt_lt hC h' hfr; omega
        · exact h'
      · rcases Nat.lt_or_ge q to with h' | h'
        · exact h'
        · have := cAt_le hC h' hq; omega
    · rintro ⟨a, b⟩
      have e1 := cAt_le hC a hq
      have e2 := cAt_lt hC b hto
      omega
  refine ⟨h.nodup, h.bd, fun q hq => ?_, fun q hq hc => ?_⟩
  · left
    rw [cov_snoc]
    rcases h.a q hq with h' | h'
    · exact .inl h'
    · exact .inr ((key q (by have := h.bd q hq; omega)).2 h')
  · rcases cov_snoc.1 hc with h' | h'
    · exact h.b q hq h'
    · obtain ⟨a, b⟩ := (key q (by omega)).1 h'
      exact hall q a b
theorem OQ.all {C : List Int} {S : List Span} {Q : List Nat} (h : OQ C S 0 0 Q) (q : Nat) : q ∈ Q ↔ q + 1 < C.length ∧ cov S (cAt C q) :=
  ⟨fun hq => ⟨h.bd q hq, (h.a q hq).elim id fun h => by omega⟩, fun ⟨a, b⟩ => h.b q a b⟩

/-- The parts sorted are the parts at places that rise. -/
theorem segs_sorted {C : List Int} {S : List Span} {Q : List Nat} {d : List Span} (hC : C.Pairwise (· < ·)) (h : OQ C S 0 0 Q) (hp : d.Perm (Q.map (seg S C))) (hs : d.Pairwise (fun x y => ¬ y.f < x.f)) :
    ∃ Q' : List Nat, (∀ q, q ∈ Q' ↔ q + 1 < C.length ∧ cov S (cAt C q)) ∧ Q'.Pairwise (· < ·) ∧ d = Q'.map (seg S C) := by
  let idx : Span → Nat := fun s => C.countP (fun c => decide (c < s.f))
  have hidx : ∀ q, q + 1 < C.length → idx (seg S C q) = q := by
    intro q hq
    obtain ⟨h1, h2⟩ := count_at hC (x := cAt C q) (cAt_mem (by omega))
    have : C.countP (fun c => decide (c < cAt C q)) = q := by
      rcases Nat.lt_trichotomy (C.countP (fun c => decide (c < cAt C q))) q with h' | h' | h'
      · have := cAt_lt hC h' (by omega); omega
      · exact h'
      · have := cAt_lt hC h' h1; omega
    exact this
  have hmem : ∀ s ∈ d, ∃ q, q ∈ Q ∧ s = seg S C q := by
    intro s hs
    obtain ⟨q, hq, e⟩ := List.mem_map.1 (hp.mem_iff.1 hs)
    exact ⟨q, hq, e.symm⟩
  have hback : d = (d.map idx).map (seg S C) := by
    rw [List.map_map]
    conv => lhs; rw [← List.map_id d]
    apply List.map_congr_left
    intro s hs
    obtain ⟨q, hq, rfl⟩ := hmem s hs
    simp only [id, Function.comp, hidx q (h.bd q hq)]
  have hperm : (d.map idx).Perm Q := by
    have := hp.map idx
    rw [List.map_map] at this
    have e : Q.map (idx ∘ seg S C) = Q := by
      conv => rhs; rw [← List.map_id Q]
      apply List.map_congr_left
      intro q hq
      simp only [Function.comp, id, hidx q (h.bd q hq)]
    rwa [e] at this
  refine ⟨d.map idx, fun q => by rw [hperm.mem_iff]; exact h.all q, ?_, hback⟩
  have hn : (d.map idx).Nodup := hperm.nodup_iff.2 h.nodup
  have hle : (d.map idx).Pairwise (· ≤ ·) := by
    rw [List.pairwise_map]
    refine List.Pairwise.imp_of_mem ?_ hs
    intro a b ha hb hab
    obtain ⟨q, hq, rfl⟩ := hmem a ha
    obtain ⟨r, hr, rfl⟩ := hmem b hb
    rw [hidx q (h.bd q hq), hidx r (h.bd r hr)]
    rcases Nat.lt_or_ge r q with h' | h'
    · exact absurd (cAt_lt hC h' (by have := h.bd q hq; omega)) hab
    · exact h'
  refine (hle.and hn).imp ?_
  intro a b ⟨h1, h2⟩
  omega
theorem nodup_len : ∀ (m : Nat) (Q : List Nat), Q.Nodup → (∀ q ∈ Q, q < m) → Q.length ≤ m
  | 0, Q, _, h => by
    cases Q with
    | nil => exact Nat.le_refl _
    | cons q Q => have := h q (by simp); omega
  | m + 1, Q, hn, h => by
    have h1 := nodup_len m (Q.filter fun q => q != m) (hn.filter _) (fun q hq => by
      have h2 := List.mem_filter.1 hq
      have h3 := h q h2.1
      have h4 : q ≠ m := by simpa using h2.2
      omega)
    have h2 : Q.length ≤ (Q.filter fun q => q != m).length + 1 := by
      clear h h1
      induction Q with
      | nil => simp
      | cons q Q ih =>
        obtain ⟨ha, hn⟩ := List.nodup_cons.1 hn
        by_cases e : q = m
        · subst e
          have : Q.filter (fun x => x != q) = Q := List.filter_eq_self.2 fun x hx => by
            have : x ≠ q := fun e => ha (e ▸ hx)
            simpa using this
          simp [this]
        · have := ih hn
          simp [e]; omega
    omega
theorem OQ.len {C : List Int} {D : List Span} {Q : List Nat} {fr to : Nat} (h : OQ C D fr to Q) : Q.length ≤ C.length := nodup_len _ _ h.nodup fun q hq => by have := h.bd q hq; omega
end Go.Proofs.Ytkcielidjlgedaa
