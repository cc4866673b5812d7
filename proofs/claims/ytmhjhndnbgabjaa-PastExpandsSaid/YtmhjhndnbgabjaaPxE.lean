/- past: Expand. -/
import Derived.Test.YtmhjhndnbgabjaaPxC
namespace Go.Proofs.Ytmhjhndnbgabjaa
open Go.RowKit
set_option linter.unusedVariables false
set_option linter.unusedSimpArgs false

theorem backP_mem {M : List (List Int)} {n : Int} {x : List Int} (h : backP M n = some x) : x ∈ M := by
  unfold backP at h
  split at h
  · cases h
  · injection h with h
    subst h
    rw [show M.getD (M.length - n.toNat) [] = M[M.length - n.toNat]'(by omega) by simp [List.getD, show M.length - n.toNat < M.length by omega]]
    exact List.getElem_mem _
theorem newestP_mem {M : List (List Int)} {f : List Int → Bool} {x : List Int} (h : newestP M f = some x) : x ∈ M := List.mem_reverse.1 (List.mem_of_find?_eq_some h)
theorem eventP_is {M : List (List Int)} {t : List Int} {e : List Int × Nat} (h : eventP M t = some e) : e.2 ≤ t.length ∧ (e.2 = 0 ∨ e.1 ∈ M) ∧ (e.2 = 0 → e.1 = []) := by
  cases t with
  | nil => injection h with h; subst h; exact ⟨Nat.le_refl _, .inl rfl, fun _ => rfl⟩
  | cons c r =>
    have key : ∀ {o : Option (List Int)} {k : Nat}, (∀ x, o = some x → x ∈ M) → k ≠ 0 → k ≤ (c :: r).length → (o.map fun l => (l, k)) = some e → e.2 ≤ (c :: r).length ∧ (e.2 = 0 ∨ e.1 ∈ M) ∧ (e.2 = 0 → e.1 = []) := by
      intro o k h1 h2 h3 h4
      cases o with
      | none => cases h4
      | some x =>
        injection h4 with h4
        subst h4
        exact ⟨h3, .inr (h1 x rfl), fun h => absurd h h2⟩
    have hl : (c :: r).length = r.length + 1 := rfl
    rw [eventP_cons] at h
    split at h
    · exact key (fun x hx => backP_mem hx) (by decide) (by omega) h
    · split at h
      · have := numP_le 4 0 (c :: r)
        exact key (fun x hx => backP_mem hx) (by omega) (by omega) h
      · split at h
        · have := numP_le 4 0 r
          exact key (fun x hx => backP_mem hx) (by omega) (by omega) h
        · split at h
          · have := tw_le notQ r
            refine key (fun x hx => newestP_mem hx) ?_ ?_ h
            · split <;> omega
            · split <;> omega
          · split at h
            · injection h with h; subst h; exact ⟨Nat.zero_le _, .inl rfl, fun _ => rfl⟩
            · have := tw_le notEnd (c :: r)
              exact key (fun x hx => newestP_mem hx) (by omega) (by omega) h
theorem expQ_nil (M : List (List Int)) (f : Nat) : expQ M f [] = some [] := by cases f <;> rfl
theorem expQ_cons (M : List (List Int)) (f : Nat) (c : Int) (t : List Int) : expQ M (f + 1) (c :: t) =
    if c = 92 ∧ t.head? = some 33 then (expQ M f (t.drop 1)).map (33 :: ·)
    else if c = 33 then (eventP M t).bind fun e => (expQ M f (t.drop e.2)).map ((if e.2 = 0 then [33] else e.1) ++ ·)
    else (expQ M f t).map (c :: ·) := rfl
/-- What is still to come. -/
def restQ (M : List (List Int)) (l : List Int) (R : Option (List Int)) (a : Nat) (done : List Int) : Prop := ∃ f, l.length ≤ a + f ∧ R = (expQ M f (l.drop a)).map (done ++ ·)
section
variable {M : List (List Int)} {l : List Int} {R : Option (List Int)} {a : Nat} {done : List Int}
theorem restQ_start : restQ M l (expQ M l.length l) 0 [] := ⟨l.length, by omega, by simp⟩
theorem restQ_end (h : restQ M l R l.length done) : R = some done := by
  obtain ⟨f, _, h⟩ := h
  rw [h, List.drop_length, expQ_nil]
  simp
theorem restQ_two (h : restQ M l R a done) (h1 : a + 1 < l.length) (hx : l.getD a 0 = 92) (hy : l.getD (a + 1) 0 = 33) : restQ M l R (a + 2) (done ++ [33]) := by
  obtain ⟨f, hf, h⟩ := h
  obtain ⟨f, rfl⟩ : ∃ g, f = g + 1 := ⟨f - 1, by omega⟩
  refine ⟨f, by omega, ?_⟩
  have ha : a < l.length := by omega
  have e : l[a] = 92 := by rw [← hx]; simp [List.getD, ha]
  have e2 : l[a + 1] = 33 := by rw [← hy]; simp [List.getD, h1]
  rw [h, List.drop_eq_getElem_cons ha, expQ_cons, e, if_pos ⟨rfl, by rw [List.head?_drop, List.getElem?_eq_getElem h1, e2]⟩, List.drop_drop, Option.map_map]
  congr 1
  funext x
  simp
theorem restQ_one (h : restQ M l R a done) (ha : a < l.length) (h33 : l.getD a 0 ≠ 33) (hn : ¬ (l.getD a 0 = 92 ∧ a + 1 < l.length ∧ l.getD (a + 1) 0 = 33)) : restQ M l R (a + 1) (done ++ [l.getD a 0]) := by
  obtain ⟨f, hf, h⟩ := h
  obtain ⟨f, rfl⟩ : ∃ g, f = g + 1 := ⟨f - 1, by omega⟩
  refine ⟨f, by omega, ?_⟩
  have e : l.getD a 0 = l[a] := by simp [List.getD, ha]
  rw [e] at h33 hn ⊢
  rw [h, List.drop_eq_getElem_cons ha, expQ_cons, if_neg, if_neg h33, Option.map_map]
  · congr 1
    funext x
    simp
  · rintro ⟨h1, h2⟩
    rw [List.head?_drop] at h2
    obtain ⟨h3, h4⟩ := List.getElem?_eq_some_iff.1 h2
    exact hn ⟨h1, h3, by simp [List.getD, h3, h4]⟩
theorem restQ_ev (h : restQ M l R a done) (ha : a < l.length) (h33 : l.getD a 0 = 33) : (eventP M (l.drop (a + 1)) = none → R = none) ∧ ∀ e, eventP M (l.drop (a + 1)) = some e → restQ M l R (a + 1 + e.2) (done ++ if e.2 = 0 then [33] else e.1) := by
  obtain ⟨f, hf, h⟩ := h
  obtain ⟨f, rfl⟩ : ∃ g, f = g + 1 := ⟨f - 1, by omega⟩
  have e : l[a] = 33 := by rw [← h33]; simp [List.getD, ha]
  rw [List.drop_eq_getElem_cons ha, expQ_cons, e, if_neg (fun h => absurd h.1 (by decide)), if_pos rfl] at h
  constructor
  · intro hn
    rw [h, hn]; rfl
  · intro ev hv
    refine ⟨f, by omega, ?_⟩
    rw [h, hv, Option.bind_some, Option.map_map, List.drop_drop]
    congr 1
    funext x
    simp
end
/-- What holds at the head of Expand's round. -/
structure EQ (w : World) (P : Array Value) (M : List (List Int)) (l : List Int) (R : Option (List Int)) (a n : Nat) (done : List Int) (v : Value) (X : World) : Prop where
  own : X.ownsRow (w.heap.size + 1) 21 1 v n (done.map (Value.int .i32))
  len : done.length = n
  rest : restQ M l R a done
  be : Below w.heap.size w X
  blk : Blk X w.heap.size P
theorem EQ.cat {w X X' Y : World} {P : Array Value} {M : List (List Int)} {l : List Int} {R : Option (List Int)} {a a' n m : Nat} {done xs : List Int} {v : Value} {A : Option Addr} {c : Nat} (h : EQ w P M l R a n done v X) (hb : Below X.heap.size X X') (hm : m = xs.length) (hp : Pushed X' Y (w.heap.size + 1) 21 1 v (n + m) (done.map (Value.int .i32) ++ (List.range m).map (liR xs)) A c) (hr : restQ M l R a' (done ++ xs)) : EQ w P M l R a' (n + m) (done ++ xs) (.slice A (n + m) c) Y := by
  subst hm
  have hB := h.be.trans (hb.mono h.be.size)
  have ho := own_later h.own hb
  have hg : some w.heap.size ≠ v.ownBlock := fun e => by have := (ho.lt _ e.symm).1; omega
  refine ⟨by have := hp.own; rw [liR_map, ← List.map_append] at this; exact this, by simp [h.len], hr, hp.below hB ho (by omega), (h.blk.later hb h.blk.1).grown hp.grown hg⟩
theorem liR_one (x : Int) : (List.range 1).map (liR [x]) = [Value.int .i32 x] := rfl
end Go.Proofs.Ytmhjhndnbgabjaa
