/- script: what is parsed can be printed: pure. -/
import Derived.Test.YtjkhkohlejkdlaaDoorScPf
namespace Go.Proofs.YtjkhkohlejkdlaaDoor
open Go.RowKit
set_option linter.unusedVariables false
set_option linter.unusedSimpArgs false

def Good (x : Evt) : Prop := knownP x = true ∧ Byt x ∧ bareE x = x
theorem hexE_good : ∀ (k : Nat) (l : List UInt8) (x : List Evt), l.length ≤ k → hexE l = some x → ∀ y ∈ x, Good y := by
  intro k
  induction k with
  | zero =>
    intro l x hl h
    obtain rfl : l = [] := List.eq_nil_of_length_eq_zero (by omega)
    have h' : some [] = some x := h
    injection h' with h'
    subst h'
    intro y hy
    cases hy
  | succ k ih =>
    intro l x hl h
    match l, hl, h with
    | [], _, h =>
      have h' : some [] = some x := h
      injection h' with h'
      subst h'
      intro y hy
      cases hy
    | [a], _, h =>
      have h' : some [] = some x := h
      injection h' with h'
      subst h'
      intro y hy
      cases hy
    | a :: b :: t, hl, h =>
      have h' : (if digP a.toNat < 0 ∨ digP b.toNat < 0 then none else (hexE t).map ([⟨1, 16 * digP a.toNat + digP b.toNat, 0, 0⟩] ++ ·)) = some x := h
      split at h'
      · cases h'
      · rename_i hd
        cases hx : hexE t with
        | none => rw [hx] at h'; cases h'
        | some z =>
          rw [hx] at h'
          injection h' with h'
          have h1 := dig_hi a.toNat
          have h2 := dig_hi b.toNat
          rw [← h']
          intro y hy
          rcases List.mem_append.1 hy with hy | hy
          · obtain rfl := List.mem_singleton.1 hy
            exact ⟨by simp [knownP], ⟨by show (0 : Int) ≤ 16 * _ + _; omega, by show (16 : Int) * _ + _ < 256; omega⟩, rfl⟩
          · exact ih t z (by simp at hl; omega) hx y hy
theorem numO_lt {l : List UInt8} {n : Nat} (h : numO l = some n) : n ≤ 9999 := by
  unfold numO at h
  split at h
  · cases h
  · rename_i hc
    obtain ⟨hd, hv⟩ := numL_fold l 0 n h
    have := val_lt l.length l rfl hd
    have e : n = valL l := hv
    have hp : 10 ^ l.length ≤ 10 ^ 4 := Nat.pow_le_pow_right (by decide) (by omega)
    omega
theorem line_good {l : List UInt8} {x : List Evt} (h : lineE l = some x) : (∀ y ∈ x, Good y) ∧ x.length ≤ l.length := by
  unfold lineE at h
  split at h
  · injection h with h; subst h; exact ⟨fun y hy => absurd hy (by simp), Nat.zero_le _⟩
  · rename_i hne
    split at h
    · rename_i ht
      injection h with h; subst h; subst ht
      exact ⟨fun y hy => by obtain rfl := List.mem_singleton.1 hy; exact ⟨rfl, ⟨by decide, by decide⟩, rfl⟩, by decide⟩
    · split at h
      · rename_i hp
        have hpl := pre_len hp
        unfold sizeE at h
        split at h
        · cases ha : numO ((l.drop 5).take (spc (l.drop 5))) with
          | none => rw [ha] at h; cases hb : numO ((l.drop 5).drop (spc (l.drop 5) + 1)) <;> rw [hb] at h <;> cases h
          | some n =>
            rw [ha] at h
            cases hb : numO ((l.drop 5).drop (spc (l.drop 5) + 1)) with
            | none => rw [hb] at h; cases h
            | some m =>
              rw [hb] at h
              have h' : some _ = some x := h
              injection h' with h'
              subst h'
              have hn := numO_lt ha
              have hm := numO_lt hb
              refine ⟨fun y hy => ?_, by have : sizeT.length = 5 := rfl; simp; omega⟩
              obtain rfl := List.mem_singleton.1 hy
              refine ⟨?_, ⟨Int.le_refl 0, by show (0 : Int) < 256; decide⟩, rfl⟩
              simp [knownP]
              omega
        · cases h
      · split at h
        · unfold hexsE at h
          split at h
          · cases h
          · have h1 := hexE_good _ _ _ (Nat.le_refl _) h
            have h2 := hexE_len _ _ _ (Nat.le_refl _) h
            rw [List.length_drop] at h2
            exact ⟨h1, by omega⟩
        · cases h
theorem parse_good : ∀ (ls : List (List UInt8)) (done : List Evt) (i : Nat) (m : List Evt) (n : Nat), parseL done i ls = (m, n, 0) → (∀ y ∈ done, Good y) → (∀ y ∈ m, Good y) ∧ m.length ≤ done.length + (ls.map List.length).sum
  | [], done, i, m, n, h, hd => by
    have h' : (done, 0, (0 : Int)) = (m, n, 0) := h
    injection h' with h1 _
    subst h1
    exact ⟨hd, by simp⟩
  | l :: t, done, i, m, n, h, hd => by
    cases hl : lineE l with
    | none => rw [parse_no hl] at h; injection h with _ h; injection h with _ h; cases h
    | some x =>
      by_cases hf : 65536 < done.length + x.length
      · rw [parse_full hl hf] at h; injection h with _ h; injection h with _ h; cases h
      · rw [parse_one hl (by omega)] at h
        obtain ⟨h1, h2⟩ := line_good hl
        obtain ⟨h3, h4⟩ := parse_good t (done ++ x) (i + 1) m n h (fun y hy => by
          rcases List.mem_append.1 hy with hy | hy
          · exact hd y hy
          · exact h1 y hy)
        refine ⟨h3, ?_⟩
        simp only [List.length_append, List.map_cons, List.sum_cons] at h4 ⊢
        omega
theorem lines_sum : ∀ (s cur : List UInt8), ((linesL cur s).map List.length).sum ≤ cur.length + s.length
  | [], cur => by
    show (List.map List.length (if cur = [] then [] else [cur])).sum ≤ _
    split <;> simp
  | c :: t, cur => by
    show (List.map List.length (if c.toNat = 10 then cur :: linesL [] t else linesL (cur ++ [c]) t)).sum ≤ _
    split
    · have := lines_sum t []
      simp at this ⊢
      omega
    · have := lines_sum t (cur ++ [c])
      simp at this ⊢
      omega
theorem printL_all : ∀ (l : List Evt) (o : Nat), (∀ x ∈ l, knownP x = true) → ∃ s, printL o l = some s
  | [], o, _ => ⟨_, rfl⟩
  | x :: t, o, h => by
    obtain ⟨s, hs⟩ := printL_all t (nxt o x) (fun y hy => h y (by simp [hy]))
    refine ⟨outS o x ++ s, ?_⟩
    show (if knownP x then _ else none) = _
    rw [if_pos (h x (by simp)), hs]
    rfl
theorem printL_len : ∀ (l : List Evt) (o : Nat) (s : List UInt8), printL o l = some s → s.length ≤ 16 * l.length + 1
  | [], o, s, h => by
    have h' : some (if 0 < o then [10] else []) = some s := h
    injection h' with h'
    subst h'
    split <;> simp
  | x :: t, o, s, h => by
    obtain ⟨hk, s', h1, rfl⟩ := printL_cons h
    have h2 := printL_len t _ s' h1
    have h3 := outS_len hk o
    rw [List.length_append, List.length_cons]
    omega
/-- What is printed is parsed. -/
theorem back_one {M : List Evt} {s : List UInt8} (hM : M.length ≤ 3001) (hB : ∀ x ∈ M, Byt x) (h : printL 0 M = some s) : parseP s = (M.map bareE, 0, 0) ∧ s.length ≤ 50000 := by
  have hl := printL_len M 0 s h
  have := print_parse M [] [] 0 s (by simp) (by simp) hB h (by simp; omega)
  rw [show curP [] = [] from if_pos rfl] at this
  unfold parseP
  rw [if_neg (by omega), this]
  exact ⟨by simp, by omega⟩
theorem printS_ok {M : List Evt} {s : List UInt8} (hM : M.length ≤ 65536) (h : printS M = (s, 0)) : printL 0 M = some s := by
  rw [printS_short (by omega)] at h
  cases hp : printL 0 M with
  | none => rw [hp] at h; injection h with _ h; cases h
  | some t => rw [hp] at h; injection h with h _; rw [h]
/-- What is parsed is printed, and parsed alike. -/
theorem back_two {t : List UInt8} {m : List Evt} {n : Nat} (ht : t.length ≤ 3000) (h : parseP t = (m, n, 0)) : (∀ x ∈ m, Byt x) ∧ m.length ≤ 3000 ∧ ∃ s, printS m = (s, 0) ∧ s.length ≤ 50000 ∧ parseP s = (m, 0, 0) := by
  unfold parseP at h
  rw [if_neg (by omega)] at h
  obtain ⟨hg, hl⟩ := parse_good _ [] 0 m n h (fun y hy => by cases hy)
  have hs := lines_sum t []
  have hl2 : m.length ≤ 3000 := by simp at hl hs; omega
  obtain ⟨s, hp⟩ := printL_all m 0 (fun x hx => (hg x hx).1)
  obtain ⟨h1, h2⟩ := back_one (by omega) (fun x hx => (hg x hx).2.1) hp
  refine ⟨fun x hx => (hg x hx).2.1, hl2, s, by rw [printS_short (by omega), hp]; rfl, h2, ?_⟩
  rw [h1]
  congr 1
  have : ∀ l : List Evt, (∀ x ∈ l, Good x) → l.map bareE = l := by
    intro l hl
    induction l with
    | nil => rfl
    | cons a t ih => rw [List.map_cons, (hl a (by simp)).2.2, ih (fun x hx => hl x (by simp [hx]))]
  exact this m hg
end Go.Proofs.YtjkhkohlejkdlaaDoor
