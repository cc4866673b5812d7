/- rows: the document's edges: the mathematics. -/
import Derived.Test.YtkcielidjlgedaaRwP
namespace Go.Proofs.Ytkcielidjlgedaa
set_option linter.unusedVariables false
set_option linter.unusedSimpArgs false

/-- A number put into rising ones, ahead of the first that is greater. -/
def ins (n : Int) (l : List Int) : List Int := l.takeWhile (fun x => decide (x < n)) ++ n :: l.dropWhile (fun x => decide (x < n))
def addP (l : List Int) (n : Int) : List Int := if n < 0 ∨ 1114111 < n ∨ n ∈ l then l else ins n l
/-- The edges behind a row. -/
def edgeStep (kind : Int) (l : List Int) (x : Row) : List Int := if x.k = kind then (if x.t < 1114111 then addP (addP l x.f) (x.t + 1) else addP l x.f) else l
def edgesP (kind : Int) (L : List Row) : List Int := L.foldl (edgeStep kind) [0, 1114112]

theorem ins_mem {n x : Int} {l : List Int} : x ∈ ins n l ↔ x = n ∨ x ∈ l := by
  unfold ins
  have := List.takeWhile_append_dropWhile (p := fun x => decide (x < n)) (l := l)
  conv => rhs; rw [← this]
  simp only [List.mem_append, List.mem_cons]
  constructor
  · rintro (h | h | h)
    · exact .inr (.inl h)
    · exact .inl h
    · exact .inr (.inr h)
  · rintro (h | h | h)
    · exact .inr (.inl h)
    · exact .inl h
    · exact .inr (.inr h)
theorem ins_lt {n : Int} : ∀ {l : List Int}, l.Pairwise (· < ·) → n ∉ l → (ins n l).Pairwise (· < ·)
  | [], _, _ => by simp [ins]
  | x :: l, h, hn => by
    obtain ⟨h1, h2⟩ := List.pairwise_cons.1 h
    have hne : x ≠ n := fun e => hn (by simp [e])
    by_cases hx : x < n
    · have e : ins n (x :: l) = x :: ins n l := by simp [ins, hx]
      rw [e, List.pairwise_cons]
      refine ⟨fun y hy => ?_, ins_lt h2 fun hm => hn (by simp [hm])⟩
      rcases ins_mem.1 hy with rfl | hy
      · exact hx
      · exact h1 y hy
    · have e : ins n (x :: l) = n :: x :: l := by simp [ins, hx]
      rw [e, List.pairwise_cons]
      refine ⟨fun y hy => ?_, h⟩
      rcases List.mem_cons.1 hy with rfl | hy
      · omega
      · have := h1 y hy; omega
theorem addP_lt {l : List Int} {n : Int} (h : l.Pairwise (· < ·)) : (addP l n).Pairwise (· < ·) := by
  unfold addP
  split
  · exact h
  · rename_i hc
    exact ins_lt h fun hm => hc (.inr (.inr hm))
theorem addP_sub {l : List Int} {n x : Int} (h : x ∈ l) : x ∈ addP l n := by
  unfold addP
  split
  · exact h
  · exact ins_mem.2 (.inr h)
theorem addP_self {l : List Int} {n : Int} (h0 : 0 ≤ n) (h1 : n ≤ 1114111) : n ∈ addP l n := by
  unfold addP
  split
  · rename_i hc
    rcases hc with hc | hc | hc
    · omega
    · omega
    · exact hc
  · exact ins_mem.2 (.inl rfl)
theorem addP_bd {l : List Int} {n : Int} (h : ∀ x ∈ l, 0 ≤ x ∧ x ≤ 1114112) : ∀ x ∈ addP l n, 0 ≤ x ∧ x ≤ 1114112 := by
  unfold addP
  intro x hx
  split at hx
  · exact h x hx
  · rename_i hc
    rcases ins_mem.1 hx with rfl | hx
    · omega
    · exact h x hx
theorem addP_len (l : List Int) (n : Int) : (addP l n).length ≤ l.length + 1 := by
  unfold addP
  split
  · omega
  · unfold ins
    have := congrArg List.length (List.takeWhile_append_dropWhile (p := fun x => decide (x < n)) (l := l))
    rw [List.length_append] at this
    simp only [List.length_append, List.length_cons]
    omega

structure EdgeInv (kind : Int) (D : List Row) (l : List Int) : Prop where
  lt : l.Pairwise (· < ·)
  bd : ∀ x ∈ l, 0 ≤ x ∧ x ≤ 1114112
  lo : (0 : Int) ∈ l
  hi : (1114112 : Int) ∈ l
  f : ∀ x ∈ D, x.k = kind → 0 ≤ x.f → x.f ≤ 1114111 → x.f ∈ l
  t : ∀ x ∈ D, x.k = kind → 0 ≤ x.t + 1 → x.t < 1114111 → x.t + 1 ∈ l
  len : l.length ≤ 2 * D.length + 2
theorem EdgeInv.start (kind : Int) : EdgeInv kind [] [0, 1114112] := ⟨by simp, by simp, by simp, by simp, by simp, by simp, by simp⟩
theorem EdgeInv.step {kind : Int} {D : List Row} {l : List Int} (h : EdgeInv kind D l) (x : Row) : EdgeInv kind (D ++ [x]) (edgeStep kind l x) := by
  have l1 := addP_len l x.f
  have l2 := addP_len (addP l x.f) (x.t + 1)
  have hl := h.len
  unfold edgeStep
  split
  · rename_i hk
    split
    · rename_i ht
      refine ⟨addP_lt (addP_lt h.lt), addP_bd (addP_bd h.bd), addP_sub (addP_sub h.lo), addP_sub (addP_sub h.hi), ?_, ?_, by simp; omega⟩
      · intro y hy hk h0 h1
        rcases List.mem_append.1 hy with hy | hy
        · exact addP_sub (addP_sub (h.f y hy hk h0 h1))
        · simp at hy; subst hy; exact addP_sub (addP_self h0 h1)
      · intro y hy hk h0 h1
        rcases List.mem_append.1 hy with hy | hy
        · exact addP_sub (addP_sub (h.t y hy hk h0 h1))
        · simp at hy; subst hy; exact addP_self h0 (by omega)
    · rename_i ht
      refine ⟨addP_lt h.lt, addP_bd h.bd, addP_sub h.lo, addP_sub h.hi, ?_, ?_, by simp; omega⟩
      · intro y hy hk h0 h1
        rcases List.mem_append.1 hy with hy | hy
        · exact addP_sub (h.f y hy hk h0 h1)
        · simp at hy; subst hy; exact addP_self h0 h1
      · intro y hy hk h0 h1
        rcases List.mem_append.1 hy with hy | hy
        · exact addP_sub (h.t y hy hk h0 h1)
        · simp at hy; subst hy; omega
  · rename_i hk
    refine ⟨h.lt, h.bd, h.lo, h.hi, ?_, ?_, by simp; omega⟩
    · intro y hy hk h0 h1
      rcases List.mem_append.1 hy with hy | hy
      · exact h.f y hy hk h0 h1
      · simp at hy; subst hy; contradiction
    · intro y hy hk h0 h1
      rcases List.mem_append.1 hy with hy | hy
      · exact h.t y hy hk h0 h1
      · simp at hy; subst hy; contradiction
theorem edges_inv (kind : Int) (L : List Row) : EdgeInv kind L (edgesP kind L) := by
  have key : ∀ (M D : List Row) (l : List Int), EdgeInv kind D l → EdgeInv kind (D ++ M) (M.foldl (edgeStep kind) l) := by
    intro M
    induction M with
    | nil => intro D l h; simpa using h
    | cons x M ih =>
      intro D l h
      have := ih (D ++ [x]) _ (h.step x)
      simpa using this
  have := key L [] _ (EdgeInv.start kind)
  simpa [edgesP] using this

/-! ### add, place by place -/
theorem ins_all {n : Int} {l : List Int} (h : ∀ x ∈ l, x < n) : ins n l = l ++ [n] := by
  have h1 : l.takeWhile (fun x => decide (x < n)) = l := by
    induction l with
    | nil => rfl
    | cons x l ih => rw [List.takeWhile_cons_of_pos (by simpa using h x (by simp)), ih fun y hy => h y (by simp [hy])]
  have h2 : l.dropWhile (fun x => decide (x < n)) = [] := by
    induction l with
    | nil => rfl
    | cons x l ih =>
      rw [List.dropWhile_cons_of_pos (by simpa using h x (by simp))]
      refine ih (fun y hy => h y (by simp [hy])) ?_
      have := h1
      rw [List.takeWhile_cons_of_pos (by simpa using h x (by simp))] at this
      injection this
  unfold ins
  rw [h1, h2]
theorem ins_more {n : Int} : ∀ {l : List Int} {y : Int}, (∃ x ∈ l, ¬ x < n) → ins n (l ++ [y]) = ins n l ++ [y]
  | [], y, ⟨x, hx, _⟩ => by cases hx
  | a :: l, y, ⟨x, hx, h⟩ => by
    by_cases ha : a < n
    · have e1 : ins n (a :: l ++ [y]) = a :: ins n (l ++ [y]) := by simp [ins, ha]
      have e2 : ins n (a :: l) = a :: ins n l := by simp [ins, ha]
      rw [e1, e2, ins_more]
      · rfl
      · rcases List.mem_cons.1 hx with rfl | hx
        · exact absurd ha h
        · exact ⟨x, hx, h⟩
    · simp [ins, ha]
theorem ins_here {n y : Int} {l : List Int} (h : ∀ x ∈ l, x < n) (hy : n < y) : ins n (l ++ [y]) = l ++ [n] ++ [y] := by
  induction l with
  | nil => simp [ins, show ¬ y < n by omega]
  | cons a l ih =>
    have ha := h a (by simp)
    have e1 : ins n (a :: l ++ [y]) = a :: ins n (l ++ [y]) := by simp [ins, ha]
    rw [e1, ih fun x hx => h x (by simp [hx])]
    rfl
def AddI (l : List Int) (n : Int) (k : Nat) (d : Bool) (D : List Int) : Prop :=
  (∀ x ∈ l.take k, x ≠ n) ∧ ((d = false ∧ D = l.take k ∧ ∀ x ∈ l.take k, x < n) ∨ (d = true ∧ D = ins n (l.take k) ∧ ∃ x ∈ l.take k, n < x))
theorem takeI {l : List Int} {k : Nat} {y : Int} (h : l[k]? = some y) : l.take (k + 1) = l.take k ++ [y] := by
  obtain ⟨hj, e⟩ := List.getElem?_eq_some_iff.1 h
  rw [List.take_succ_eq_append_getElem hj, e]
theorem AddI.start (l : List Int) (n : Int) : AddI l n 0 false [] := ⟨by simp, .inl ⟨rfl, by simp, by simp⟩⟩
theorem AddI.ne {l : List Int} {n : Int} {k : Nat} {d : Bool} {D : List Int} (h : AddI l n k d D) {y : Int} (hy : l[k]? = some y) (hne : y ≠ n) : ∀ x ∈ l.take (k + 1), x ≠ n := by
  rw [takeI hy]
  intro x hx
  rcases List.mem_append.1 hx with hx | hx
  · exact h.1 x hx
  · simp at hx; subst hx; exact hne
theorem AddI.low {l : List Int} {n : Int} {k : Nat} {D : List Int} (h : AddI l n k false D) {y : Int} (hy : l[k]? = some y) (hl : y < n) : AddI l n (k + 1) false (D ++ [y]) := by
  refine ⟨h.ne hy (by omega), .inl ⟨rfl, ?_, ?_⟩⟩
  · rcases h.2 with ⟨_, h1, _⟩ | ⟨h1, _⟩
    · rw [takeI hy, h1]
    · cases h1
  · rw [takeI hy]
    intro x hx
    rcases h.2 with ⟨_, _, h1⟩ | ⟨h1, _⟩
    · rcases List.mem_append.1 hx with hx | hx
      · exact h1 x hx
      · simp at hx; subst hx; exact hl
    · cases h1
theorem AddI.here {l : List Int} {n : Int} {k : Nat} {D : List Int} (h : AddI l n k false D) {y : Int} (hy : l[k]? = some y) (hl : n < y) : AddI l n (k + 1) true (D ++ [n] ++ [y]) := by
  refine ⟨h.ne hy (by omega), .inr ⟨rfl, ?_, y, by rw [takeI hy]; simp, hl⟩⟩
  rcases h.2 with ⟨_, h1, h2⟩ | ⟨h1, _⟩
  · rw [takeI hy, ins_here h2 hl, h1]
  · cases h1
theorem AddI.more {l : List Int} {n : Int} {k : Nat} {D : List Int} (h : AddI l n k true D) {y : Int} (hy : l[k]? = some y) (hne : y ≠ n) : AddI l n (k + 1) true (D ++ [y]) := by
  refine ⟨h.ne hy hne, .inr ⟨rfl, ?_, ?_⟩⟩
  · rcases h.2 with ⟨h1, _⟩ | ⟨_, h1, x, hx, h2⟩
    · cases h1
    · rw [takeI hy, ins_more ⟨x, hx, by omega⟩, h1]
  · rcases h.2 with ⟨h1, _⟩ | ⟨_, h1, x, hx, h2⟩
    · cases h1
    · exact ⟨x, by rw [takeI hy]; simp [hx], h2⟩
theorem AddI.done {l : List Int} {n : Int} {d : Bool} {D : List Int} (h : AddI l n l.length d D) (h0 : 0 ≤ n) (h1 : n ≤ 1114111) (hm : (1114112 : Int) ∈ l) : D = addP l n := by
  rw [AddI, List.take_length] at h
  unfold addP
  rw [if_neg (by
    rintro (a | a | a)
    · omega
    · omega
    · exact h.1 n a rfl)]
  rcases h.2 with ⟨_, _, h2⟩ | ⟨_, h2, _⟩
  · have := h2 _ hm; omega
  · exact h2

/-- Between two edges nothing begins or ends. -/
theorem edges_same {kind : Int} {L : List Row} {l : List Int} (h : EdgeInv kind L l) {i : Nat} (hi : i + 1 < l.length) {r : Int} (h1 : cAt l i ≤ r) (h2 : r < cAt l (i + 1)) {x : Row} (hx : x ∈ L) : Row.has kind r x = Row.has kind (cAt l i) x := by
  have nb : ∀ y ∈ l, y ≤ cAt l i ∨ cAt l (i + 1) ≤ y := by
    intro y hy
    obtain ⟨j, hj, hje⟩ := List.getElem_of_mem hy
    have e : cAt l j = y := by simp [cAt, List.getD, hj, hje]
    rcases Nat.lt_or_ge i j with h' | h'
    · right; rw [← e]; exact cAt_le h.lt h' hj
    · left; rw [← e]; exact cAt_le h.lt h' (by omega)
  have b0 := h.bd _ (cAt_mem (show i < l.length by omega))
  have b1 := h.bd _ (cAt_mem hi)
  by_cases hk : x.k = kind
  · have hf : 0 ≤ x.f → x.f ≤ 1114111 → (x.f ≤ cAt l i ∨ cAt l (i + 1) ≤ x.f) := fun a b => nb _ (h.f x hx hk a b)
    have ht : 0 ≤ x.t + 1 → x.t < 1114111 → (x.t + 1 ≤ cAt l i ∨ cAt l (i + 1) ≤ x.t + 1) := fun a b => nb _ (h.t x hx hk a b)
    have key : (x.f ≤ r ∧ r ≤ x.t) ↔ (x.f ≤ cAt l i ∧ cAt l i ≤ x.t) := by
      constructor
      · rintro ⟨a, b⟩
        refine ⟨?_, by omega⟩
        rcases Int.lt_or_le x.f 0 with h' | h'
        · omega
        · have := hf h' (by omega); omega
      · rintro ⟨a, b⟩
        refine ⟨by omega, ?_⟩
        rcases Int.lt_or_le x.t 1114111 with h' | h'
        · have := ht (by omega) h'; omega
        · omega
    simp only [Row.has, hk, true_and, decide_eq_decide]
    exact key
  · simp [Row.has, hk]
end Go.Proofs.Ytkcielidjlgedaa
