/- store: the document's line is the program's: pure. -/
import Derived.Test.YtfnieoffgnnldaaDoorStG
namespace Go.Proofs.YtfnieoffgnnldaaDoor
open Go.RowKit
set_option linter.unusedVariables false
set_option linter.unusedSimpArgs false

/-- Bytes in which what is written by two is put back, as the document reads them. -/
def unesB : List Int → List Int → Option (List Int)
  | out, [] => some out
  | out, [b] => if b = 92 then none else some (out ++ [b])
  | out, b :: c :: t => if b = 92 then (if c = 110 then unesB (out ++ [10]) t else if c = 92 then unesB (out ++ [92]) t else none) else unesB (out ++ [b]) (c :: t)
def rlinP (bs : List Int) : Option (List Int) :=
  if bs.length < 3 ∨ bs.getD 2 0 ≠ 32 then none
  else match unesB [] (bs.drop 3) with
    | none => none
    | some t => if entI (decD t) = bs ++ [10] then some (decD t) else none

def escR1 (r : Int) : List Int := if r = 10 then [92, 110] else if r = 92 then [92, 92] else [r]
def escR (l : List Int) : List Int := l.flatMap escR1
theorem escR_cons (r : Int) (l : List Int) : escR (r :: l) = escR1 r ++ escR l := by simp [escR]
theorem txtI_cons (r : Int) (l : List Int) : txtI (r :: l) = chT r ++ txtI l := by simp [txtI]
theorem enc_escR1 (r : Int) : encI (escR1 r) = chT r := by
  unfold escR1 chT
  split
  · show putS 92 ++ (putS 110 ++ []) = _
    rw [putS_low (by omega) (by omega), putS_low (by omega) (by omega)]; rfl
  · split
    · show putS 92 ++ (putS 92 ++ []) = _
      rw [putS_low (by omega) (by omega)]; rfl
    · show putS r ++ [] = _
      rw [List.append_nil]
theorem enc_escR : ∀ l : List Int, encI (escR l) = txtI l
  | [] => rfl
  | r :: l => by rw [escR_cons, encI_append, enc_escR1, enc_escR l, txtI_cons]
theorem scal_ne {r c : Int} (hc : 0 ≤ c ∧ c < 128) (h : r ≠ c) : scal r ≠ c := by
  unfold scal
  split
  · exact h
  · omega
theorem unesc_esc : ∀ (l out : List Int), unesc false out ((escR l).map scal) = some (out ++ l.map scal, false)
  | [], out => by
    show some (out, false) = some (out ++ [], false)
    rw [List.append_nil]
  | r :: l, out => by
    rw [escR_cons, List.map_append]
    have ih := fun o => unesc_esc l o
    unfold escR1
    split
    · rename_i h
      subst h
      have e1 : [92, 110].map scal = [92, 110] := by decide +kernel
      have e2 : scal 10 = 10 := by decide +kernel
      rw [e1]
      show unesc false (out ++ [10]) ((escR l).map scal) = _
      rw [ih, List.map_cons, e2, List.append_assoc]
      rfl
    · split
      · rename_i h
        subst h
        have e1 : [92, 92].map scal = [92, 92] := by decide +kernel
        have e2 : scal 92 = 92 := by decide +kernel
        rw [e1]
        show unesc false (out ++ [92]) ((escR l).map scal) = _
        rw [ih, List.map_cons, e2, List.append_assoc]
        rfl
      · rename_i h1 h2
        have h3 : scal r ≠ 92 := scal_ne (by omega) h2
        show unesc false out (scal r :: ((escR l).map scal)) = _
        show (if scal r = 92 then unesc true out ((escR l).map scal) else unesc false (out ++ [scal r]) ((escR l).map scal)) = _
        rw [if_neg h3, ih, List.map_cons, List.append_assoc]
        rfl
theorem scal_scal (r : Int) : scal (scal r) = scal r := by
  have h := scal_rng r
  generalize scal r = x at h
  unfold scal
  rw [if_pos ((okS_iff x).2 h)]
theorem chT_scal (r : Int) : chT (scal r) = chT r := by
  by_cases h1 : r = 10
  · subst h1; decide +kernel
  · by_cases h2 : r = 92
    · subst h2; decide +kernel
    · unfold chT
      rw [if_neg (scal_ne (by omega) h1), if_neg (scal_ne (by omega) h2), if_neg h1, if_neg h2]
      unfold putS
      rw [scal_scal]
theorem txt_scal : ∀ l : List Int, txtI (l.map scal) = txtI l
  | [] => rfl
  | r :: l => by rw [List.map_cons, txtI_cons, txtI_cons, chT_scal, txt_scal l]
theorem unesB_one (out : List Int) {b : Int} (h : b ≠ 92) : ∀ t, unesB out (b :: t) = unesB (out ++ [b]) t
  | [] => by show (if b = 92 then none else some (out ++ [b])) = _; rw [if_neg h]; rfl
  | c :: t => by
    show (if b = 92 then _ else unesB (out ++ [b]) (c :: t)) = _
    rw [if_neg h]
theorem unesB_many : ∀ (xs out t : List Int), (∀ b ∈ xs, b ≠ 92) → unesB out (xs ++ t) = unesB (out ++ xs) t
  | [], out, t, _ => by rw [List.append_nil]; rfl
  | b :: xs, out, t, h => by
    rw [List.cons_append, unesB_one out (h b (by simp)), unesB_many xs _ t fun c hc => h c (by simp [hc]), List.append_assoc]
    rfl
theorem unesB_txt : ∀ (l out : List Int), unesB out (txtI l) = some (out ++ encI l)
  | [], out => by show some out = some (out ++ []); rw [List.append_nil]
  | r :: l, out => by
    rw [txtI_cons]
    have ih := fun o => unesB_txt l o
    have hen : encI (r :: l) = putS r ++ encI l := rfl
    rw [hen]
    unfold chT
    split
    · rename_i h
      subst h
      show (if (92 : Int) = 92 then (if (110 : Int) = 110 then unesB (out ++ [10]) (txtI l) else _) else _) = _
      rw [if_pos rfl, if_pos rfl, ih, putS_low (by omega) (by omega), List.append_assoc]
    · split
      · rename_i h
        subst h
        show (if (92 : Int) = 92 then (if (92 : Int) = 110 then _ else if (92 : Int) = 92 then unesB (out ++ [92]) (txtI l) else _) else _) = _
        rw [if_pos rfl, if_neg (by decide), if_pos rfl, ih, putS_low (by omega) (by omega), List.append_assoc]
      · rename_i h1 h2
        rw [unesB_many _ _ _ (fun b hb => ?_), ih, List.append_assoc]
        by_cases hl : 0 ≤ r ∧ r < 128
        · rw [putS_low hl.1 hl.2] at hb
          simp at hb
          omega
        · have := putS_hi hl b hb
          omega
/-- An entry: its parts. -/
theorem ent_parts {l bs : List Int} (h : entI l = bs ++ [10]) : ¬ bs.length < 3 ∧ bs.getD 2 0 = 32 ∧ hx2 (chkI (bs.drop 3)) = bs.take 2 ∧ bs.drop 3 = txtI l := by
  unfold entI at h
  have hb := (List.append_inj' h rfl).1
  obtain ⟨a, b, hab⟩ : ∃ a b, hx2 (chkI (txtI l)) = [a, b] := ⟨_, _, rfl⟩
  have hb2 : bs = a :: b :: 32 :: txtI l := by rw [← hb, hab]; rfl
  subst hb2
  refine ⟨by simp, rfl, ?_, rfl⟩
  show hx2 (chkI (txtI l)) = [a, b]
  exact hab
theorem ent_lin {l bs : List Int} (h : entI l = bs ++ [10]) : linP bs = some (l.map scal) ∧ rlinP bs = some (l.map scal) := by
  obtain ⟨h1, h2, h3, h4⟩ := ent_parts h
  have hs : entI (l.map scal) = entI l := by unfold entI; rw [txt_scal]
  constructor
  · unfold linP
    rw [if_neg (by simp only [h2, h3]; simp; omega), h4, ← enc_escR, dec_enc, unesc_esc]
    simp only [List.nil_append]
    rw [if_pos ⟨by first | trivial | rfl, by rw [txt_scal, enc_escR]⟩]
  · unfold rlinP
    rw [if_neg (by simp only [h2]; simp; omega), h4, unesB_txt]
    simp only [List.nil_append]
    rw [dec_enc, if_pos (by rw [hs, h])]
theorem lin_ent {l bs : List Int} (h : linP bs = some l) : entI l = bs ++ [10] := by
  unfold linP at h
  split at h
  · cases h
  · rename_i h0
    have h1 : ¬ bs.length < 3 := fun e => h0 (.inl e)
    have h2 : bs.getD 2 0 = 32 := by
      by_cases e : bs.getD 2 0 = 32
      · exact e
      · exact absurd (.inr (.inl e)) h0
    have h3 : hx2 (chkI (bs.drop 3)) = bs.take 2 := by
      by_cases e : hx2 (chkI (bs.drop 3)) = bs.take 2
      · exact e
      · exact absurd (.inr (.inr e)) h0
    cases hu : unesc false [] (decD (bs.drop 3)) with
    | none => rw [hu] at h; cases h
    | some x =>
      obtain ⟨m, esc⟩ := x
      rw [hu] at h
      simp only at h
      split at h
      · rename_i hx
        injection h with h
        subst h
        unfold entI
        rw [hx.2, h3]
        match bs, h1, h2 with
        | a :: b :: c :: t, _, h2 =>
          have : c = 32 := h2
          subst this
          rfl
        | [], h1, _ => exact absurd (by simp) h1
        | [_], h1, _ => exact absurd (by simp) h1
        | [_, _], h1, _ => exact absurd (by simp) h1
      · cases h
theorem rlin_ent {l bs : List Int} (h : rlinP bs = some l) : entI l = bs ++ [10] := by
  unfold rlinP at h
  split at h
  · cases h
  · cases hu : unesB [] (bs.drop 3) with
    | none => rw [hu] at h; cases h
    | some t =>
      rw [hu] at h
      simp only at h
      split at h
      · rename_i hx
        injection h with h
        rw [← h]
        exact hx
      · cases h
/-- The document's line is the program's. -/
theorem lin_eq (bs : List Int) : rlinP bs = linP bs := by
  cases h : linP bs with
  | some l =>
    have e := ent_lin (lin_ent h)
    rw [e.2, ← e.1, h]
  | none =>
    cases h2 : rlinP bs with
    | none => rfl
    | some l =>
      have e := ent_lin (rlin_ent h2)
      rw [e.1] at h
      cases h
end Go.Proofs.YtfnieoffgnnldaaDoor
