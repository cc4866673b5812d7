/- trie: pieces of numbers: plain mathematics. -/
import Derived.Test.YtpbdamjpjpchiaaKit
namespace Go.Proofs.Ytpbdamjpjpchiaa
set_option linter.unusedVariables false
set_option linter.unusedSimpArgs false

/-- The numbers f to t have v. -/
structure Pc (τ : Type) where
  f : Int
  t : Int
  v : τ
section
variable {τ : Type}
def Pc.has (r : Int) (p : Pc τ) : Bool := decide (p.f ≤ r ∧ r ≤ p.t)
/-- What the first piece says that has a number. -/
def pget (L : List (Pc τ)) (r : Int) : Option τ := (L.find? (Pc.has r)).map Pc.v
theorem pget_cons (p : Pc τ) (L : List (Pc τ)) (r : Int) : pget (p :: L) r = if p.f ≤ r ∧ r ≤ p.t then some p.v else pget L r := by
  unfold pget
  by_cases h : p.f ≤ r ∧ r ≤ p.t
  · rw [List.find?_cons_of_pos (by simpa [Pc.has] using h), if_pos h]; rfl
  · rw [List.find?_cons_of_neg (by simpa [Pc.has] using h), if_neg h]
theorem pget_append (S T : List (Pc τ)) (r : Int) : pget (S ++ T) r = (pget S r).or (pget T r) := by
  unfold pget
  rw [List.find?_append]
  cases S.find? (Pc.has r) <;> simp
theorem pget_some {L : List (Pc τ)} {r : Int} {x : τ} (h : pget L r = some x) : ∃ p ∈ L, p.f ≤ r ∧ r ≤ p.t ∧ p.v = x := by
  induction L with
  | nil => cases h
  | cons p L ih =>
    rw [pget_cons] at h
    split at h
    · rename_i hc
      injection h with h
      exact ⟨p, by simp, hc.1, hc.2, h⟩
    · obtain ⟨q, hq, h1, h2, h3⟩ := ih h
      exact ⟨q, by simp [hq], h1, h2, h3⟩

/-- A piece, as much of it as is below a size. -/
def clip (m : Int) (p : Pc τ) : Option (Pc τ) := if max p.f 0 ≤ min p.t (m - 1) then some ⟨max p.f 0, min p.t (m - 1), p.v⟩ else none
def fits (m : Int) (L : List (Pc τ)) : List (Pc τ) := L.filterMap (clip m)
/-- All that counts below a size. -/
def fitz (m : Int) (L : List (Pc τ)) (z : τ) : List (Pc τ) := fits m L ++ [⟨0, m - 1, z⟩]
theorem fits_bd {m : Int} {L : List (Pc τ)} {p : Pc τ} (h : p ∈ fits m L) : 0 ≤ p.f ∧ p.f ≤ p.t ∧ p.t ≤ m - 1 := by
  obtain ⟨x, _, hx⟩ := List.mem_filterMap.1 h
  unfold clip at hx
  split at hx
  · rename_i hc
    injection hx with hx
    subst hx
    dsimp only
    omega
  · cases hx
theorem fitz_bd {m : Int} (hm : 1 ≤ m) {L : List (Pc τ)} {z : τ} {p : Pc τ} (h : p ∈ fitz m L z) : 0 ≤ p.f ∧ p.f ≤ p.t ∧ p.t ≤ m - 1 := by
  rcases List.mem_append.1 h with h | h
  · exact fits_bd h
  · simp at h
    subst h
    dsimp only
    omega
theorem fits_snoc {m : Int} {L : List (Pc τ)} {k : Nat} {x : Pc τ} (h : L[k]? = some x) : fits m (L.take (k + 1)) = fits m (L.take k) ++ (clip m x).toList := by
  obtain ⟨hk, e⟩ := List.getElem?_eq_some_iff.1 h
  rw [List.take_succ_eq_append_getElem hk, e, fits, List.filterMap_append]
  cases hc : clip m x <;> simp [fits, hc]
theorem fits_len (m : Int) (L : List (Pc τ)) : (fits m L).length ≤ L.length := List.length_filterMap_le _ _
theorem pget_fits (m : Int) (L : List (Pc τ)) (r : Int) (h0 : 0 ≤ r) (h1 : r < m) : pget (fits m L) r = pget L r := by
  induction L with
  | nil => rfl
  | cons p L ih =>
    rw [pget_cons]
    unfold fits at ih ⊢
    rw [List.filterMap_cons]
    cases hc : clip m p with
    | none =>
      unfold clip at hc
      split at hc
      · cases hc
      · show pget (List.filterMap (clip m) L) r = _
        rw [ih, if_neg (by omega)]
    | some q =>
      unfold clip at hc
      split at hc
      · injection hc with hc
        subst hc
        show pget (_ :: List.filterMap (clip m) L) r = _
        rw [pget_cons, ih]
        dsimp only
        by_cases hp : p.f ≤ r ∧ r ≤ p.t
        · rw [if_pos hp, if_pos (by omega)]
        · rw [if_neg hp, if_neg (by omega)]
      · cases hc
/-- What a number has. -/
def pval (L : List (Pc τ)) (z : τ) (r : Int) : τ := (pget L r).getD z
theorem pget_fitz (m : Int) (L : List (Pc τ)) (z : τ) (r : Int) (h0 : 0 ≤ r) (h1 : r < m) : pget (fitz m L z) r = some (pval L z r) := by
  unfold fitz pval
  rw [pget_append, pget_fits m L r h0 h1, pget_cons]
  cases pget L r with
  | some x => rfl
  | none => simp; intro h; omega

/-! ### cuts -/
def cAt (C : List Int) (i : Nat) : Int := C.getD i 0
theorem cAt_lt {C : List Int} (h : C.Pairwise (· < ·)) {i j : Nat} (hij : i < j) (hj : j < C.length) : cAt C i < cAt C j := by
  have := List.pairwise_iff_getElem.1 h i j (by omega) hj hij
  simpa [cAt, List.getD, hj, show i < C.length by omega] using this
theorem cAt_le {C : List Int} (h : C.Pairwise (· < ·)) {i j : Nat} (hij : i ≤ j) (hj : j < C.length) : cAt C i ≤ cAt C j := by
  rcases Nat.lt_or_eq_of_le hij with h1 | rfl
  · exact Int.le_of_lt (cAt_lt h h1 hj)
  · exact Int.le_refl _
theorem cAt_mem {C : List Int} {i : Nat} (hi : i < C.length) : cAt C i ∈ C := by
  simp [cAt, List.getD, hi]
theorem count_at {C : List Int} (h : C.Pairwise (· < ·)) {x : Int} (hx : x ∈ C) : C.countP (fun c => decide (c < x)) < C.length ∧ cAt C (C.countP (fun c => decide (c < x))) = x := by
  induction C with
  | nil => cases hx
  | cons c C ih =>
    obtain ⟨hc, hp⟩ := List.pairwise_cons.1 h
    rcases List.mem_cons.1 hx with rfl | hx
    · have h0 : C.countP (fun c => decide (c < x)) = 0 := by
        rw [List.countP_eq_zero]
        intro y hy
        have := hc y hy
        simp; omega
      rw [List.countP_cons_of_neg (by simp), h0]
      exact ⟨by simp, by simp [cAt]⟩
    · have := hc x hx
      rw [List.countP_cons_of_pos (by simpa using this)]
      obtain ⟨i1, i2⟩ := ih hp hx
      exact ⟨by simpa using i1, by simpa [cAt] using i2⟩

/-- The cuts of pieces: where they begin, and where what is behind them does. -/
def Cuts (S : List (Pc τ)) (C : List Int) : Prop := C.Pairwise (· < ·) ∧ ∀ c, c ∈ C ↔ ∃ s ∈ S, c = s.f ∨ c = s.t + 1
theorem cuts_same {S : List (Pc τ)} {C : List Int} (h : Cuts S C) {q : Nat} (hq : q + 1 < C.length) {r : Int} (h1 : cAt C q ≤ r) (h2 : r < cAt C (q + 1)) {s : Pc τ} (hs : s ∈ S) : (s.f ≤ r ∧ r ≤ s.t) ↔ (s.f ≤ cAt C q ∧ cAt C q ≤ s.t) := by
  have nb : ∀ x ∈ C, x ≤ cAt C q ∨ cAt C (q + 1) ≤ x := by
    intro x hx
    obtain ⟨j, hj, hjx⟩ := List.getElem_of_mem hx
    have e : cAt C j = x := by simp [cAt, List.getD, hj, hjx]
    rcases Nat.lt_or_ge q j with h' | h'
    · right; rw [← e]; exact cAt_le h.1 h' hj
    · left; rw [← e]; exact cAt_le h.1 h' (by omega)
  have b1 := nb s.f ((h.2 _).2 ⟨s, hs, .inl rfl⟩)
  have b2 := nb (s.t + 1) ((h.2 _).2 ⟨s, hs, .inr rfl⟩)
  omega
theorem cuts_val {S : List (Pc τ)} {C : List Int} (h : Cuts S C) {q : Nat} (hq : q + 1 < C.length) {r : Int} (h1 : cAt C q ≤ r) (h2 : r < cAt C (q + 1)) : pget S r = pget S (cAt C q) := by
  have key : ∀ T : List (Pc τ), (∀ s ∈ T, s ∈ S) → pget T r = pget T (cAt C q) := by
    intro T
    induction T with
    | nil => intro _; rfl
    | cons s T ih =>
      intro hT
      have hs := cuts_same h hq h1 h2 (hT s (by simp))
      rw [pget_cons, pget_cons, ih fun s hs => hT s (by simp [hs])]
      by_cases hh : s.f ≤ r ∧ r ≤ s.t
      · rw [if_pos hh, if_pos (hs.1 hh)]
      · rw [if_neg hh, if_neg (fun h => hh (hs.2 h))]
  exact key S fun _ h => h
/-- The part between two cuts. -/
def seg (S : List (Pc τ)) (z : τ) (C : List Int) (q : Nat) : Pc τ := ⟨cAt C q, cAt C (q + 1) - 1, (pget S (cAt C q)).getD z⟩

/-! ### pieces that have all numbers from one on up to another one -/
def Tile : Int → Int → List (Pc τ) → Prop
  | lo, hi, [] => lo = hi
  | lo, hi, p :: P => p.f = lo ∧ p.f ≤ p.t ∧ Tile (p.t + 1) hi P
theorem tile_append {lo hi : Int} {P Q : List (Pc τ)} : Tile lo hi (P ++ Q) ↔ ∃ m, Tile lo m P ∧ Tile m hi Q := by
  induction P generalizing lo with
  | nil => simp [Tile]
  | cons p P ih =>
    simp only [List.cons_append, Tile, ih]
    constructor
    · rintro ⟨h1, h2, m, h3, h4⟩
      exact ⟨m, ⟨h1, h2, h3⟩, h4⟩
    · rintro ⟨m, ⟨h1, h2, h3⟩, h4⟩
      exact ⟨h1, h2, m, h3, h4⟩
theorem tile_one {lo hi : Int} {x : Pc τ} : Tile lo hi [x] ↔ x.f = lo ∧ x.f ≤ x.t ∧ x.t + 1 = hi := by simp [Tile]
theorem tile_snoc {lo hi : Int} {P : List (Pc τ)} {x : Pc τ} : Tile lo hi (P ++ [x]) ↔ Tile lo x.f P ∧ x.f ≤ x.t ∧ x.t + 1 = hi := by
  rw [tile_append]
  constructor
  · rintro ⟨m, h1, h2⟩
    obtain ⟨h3, h4, h5⟩ := tile_one.1 h2
    rw [h3]
    exact ⟨h1, by rw [← h3]; exact h4, h5⟩
  · rintro ⟨h1, h2, h3⟩
    exact ⟨x.f, h1, tile_one.2 ⟨rfl, h2, h3⟩⟩
theorem tile_le {lo hi : Int} {P : List (Pc τ)} (h : Tile lo hi P) : lo ≤ hi := by
  induction P generalizing lo with
  | nil => exact Int.le_of_eq h
  | cons p P ih =>
    obtain ⟨h1, h2, h3⟩ := h
    have := ih h3
    omega
theorem tile_bd {lo hi : Int} {P : List (Pc τ)} (h : Tile lo hi P) {p : Pc τ} (hp : p ∈ P) : lo ≤ p.f ∧ p.f ≤ p.t ∧ p.t < hi := by
  induction P generalizing lo with
  | nil => cases hp
  | cons q P ih =>
    obtain ⟨h1, h2, h3⟩ := h
    have := tile_le h3
    rcases List.mem_cons.1 hp with rfl | hp
    · omega
    · have := ih h3 hp
      omega
def Vals (g : Int → τ) (P : List (Pc τ)) : Prop := ∀ p ∈ P, ∀ r, p.f ≤ r → r ≤ p.t → g r = p.v
/-- No two that follow one another have the same. -/
def Apt : List (Pc τ) → Prop
  | p :: q :: P => p.v ≠ q.v ∧ Apt (q :: P)
  | _ => True
theorem apt_snoc {P : List (Pc τ)} {y x : Pc τ} : Apt (P ++ [y] ++ [x]) ↔ Apt (P ++ [y]) ∧ y.v ≠ x.v := by
  induction P with
  | nil => simp [Apt]
  | cons p P ih =>
    cases P with
    | nil => exact ⟨fun h => ⟨⟨h.1, trivial⟩, h.2.1⟩, fun h => ⟨h.1.1, h.2, trivial⟩⟩
    | cons q P =>
      simp only [List.cons_append, Apt] at ih ⊢
      rw [ih]
      exact ⟨fun h => ⟨⟨h.1, h.2.1⟩, h.2.2⟩, fun h => ⟨h.1.1, h.1.2, h.2⟩⟩
theorem apt_same {P : List (Pc τ)} {y x : Pc τ} (e : y.v = x.v) : Apt (P ++ [y]) → Apt (P ++ [x]) := by
  induction P with
  | nil => simp [Apt]
  | cons p P ih =>
    cases P with
    | nil => simp [Apt, e]
    | cons q P =>
      simp only [List.cons_append, Apt] at ih ⊢
      exact fun h => ⟨h.1, ih h.2⟩
variable [DecidableEq τ]
def jstep (out : List (Pc τ)) (x : Pc τ) : List (Pc τ) :=
  match out.getLast? with
  | some y => if y.v = x.v then out.dropLast ++ [⟨y.f, x.t, y.v⟩] else out ++ [x]
  | none => [x]
theorem jstep_nil (x : Pc τ) : jstep [] x = [x] := rfl
theorem jstep_no {D : List (Pc τ)} {y x : Pc τ} (h : ¬ y.v = x.v) : jstep (D ++ [y]) x = D ++ [y] ++ [x] := by
  unfold jstep
  simp only [List.getLast?_append, List.getLast?_singleton, Option.some_or]
  rw [if_neg h]
theorem jstep_yes {D : List (Pc τ)} {y x : Pc τ} (h : y.v = x.v) : jstep (D ++ [y]) x = D ++ [⟨y.f, x.t, y.v⟩] := by
  unfold jstep
  simp only [List.getLast?_append, List.getLast?_singleton, Option.some_or]
  rw [if_pos h]
  simp
/-- What joined has, so far. -/
structure JI (g : Int → τ) (lo hi : Int) (out : List (Pc τ)) : Prop where
  tile : Tile lo hi out
  vals : Vals g out
  apt : Apt out
theorem JI.step {g : Int → τ} {lo : Int} {out : List (Pc τ)} {x : Pc τ} (h : JI g lo x.f out) (hx : x.f ≤ x.t) (hv : ∀ r, x.f ≤ r → r ≤ x.t → g r = x.v) : JI g lo (x.t + 1) (jstep out x) := by
  rcases List.eq_nil_or_concat out with rfl | ⟨D, y, rfl⟩
  · have := h.tile
    rw [jstep_nil]
    exact ⟨tile_one.2 ⟨this.symm, hx, rfl⟩, fun p hp r h1 h2 => by simp at hp; subst hp; exact hv r h1 h2, trivial⟩
  · rw [List.concat_eq_append] at h ⊢
    obtain ⟨t1, t2, t3⟩ := tile_snoc.1 h.tile
    by_cases e : y.v = x.v
    · rw [jstep_yes e]
      refine ⟨tile_snoc.2 ⟨t1, by dsimp only; omega, rfl⟩, fun p hp r h1 h2 => ?_, apt_same (y := y) rfl h.apt⟩
      rcases List.mem_append.1 hp with hp | hp
      · exact h.vals p (by simp [hp]) r h1 h2
      · simp at hp
        subst hp
        dsimp only at h1 h2 ⊢
        rcases Int.lt_or_le y.t r with hr | hr
        · rw [hv r (by omega) h2, e]
        · exact h.vals y (by simp) r h1 hr
    · rw [jstep_no e]
      refine ⟨tile_snoc.2 ⟨h.tile, hx, rfl⟩, fun p hp r h1 h2 => ?_, apt_snoc.2 ⟨h.apt, e⟩⟩
      rcases List.mem_append.1 hp with hp | hp
      · exact h.vals p hp r h1 h2
      · simp at hp
        subst hp
        exact hv r h1 h2
/-- What flat tells. -/
structure Flat (m : Int) (L : List (Pc τ)) (z : τ) (P : List (Pc τ)) : Prop where
  tile : Tile 0 m P
  vals : Vals (pval L z) P
  apt : Apt P

omit [DecidableEq τ] in
theorem segs_tile {S : List (Pc τ)} {z : τ} {C : List Int} (h : C.Pairwise (· < ·)) : ∀ k, k < C.length → Tile (cAt C 0) (cAt C k) ((List.range k).map (seg S z C))
  | 0, _ => rfl
  | k + 1, hk => by
    rw [List.range_succ, List.map_append]
    refine tile_snoc.2 ⟨segs_tile h k (by omega), ?_, ?_⟩
    · have := cAt_lt h (Nat.lt_succ_self k) hk
      simp only [Nat.succ_eq_add_one] at this
      simp only [seg]; omega
    · simp only [seg]; omega
omit [DecidableEq τ] in
theorem segs_vals {m : Int} {L : List (Pc τ)} {z : τ} {C : List Int} (hC : Cuts (fitz m L z) C) (hm : 1 ≤ m) {q : Nat} (hq : q + 1 < C.length) : ∀ r, (seg (fitz m L z) z C q).f ≤ r → r ≤ (seg (fitz m L z) z C q).t → pval L z r = (seg (fitz m L z) z C q).v := by
  intro r h1 h2
  simp only [seg] at h1 h2 ⊢
  have hb : ∀ c ∈ C, 0 ≤ c ∧ c ≤ m := by
    intro c hc
    obtain ⟨s, hs, h⟩ := (hC.2 c).1 hc
    have := fitz_bd hm hs
    omega
  have b1 := hb _ (cAt_mem (show q < C.length by omega))
  have b2 := hb _ (cAt_mem hq)
  have e1 := pget_fitz m L z r (by omega) (by omega)
  have e2 := cuts_val hC hq h1 (show r < cAt C (q + 1) by omega)
  rw [e1] at e2
  rw [← e2]
  rfl
omit [DecidableEq τ] in
theorem cuts_ends {m : Int} {L : List (Pc τ)} {z : τ} {C : List Int} (hC : Cuts (fitz m L z) C) (hm : 1 ≤ m) : 2 ≤ C.length ∧ cAt C 0 = 0 ∧ cAt C (C.length - 1) = m := by
  have hb : ∀ c ∈ C, 0 ≤ c ∧ c ≤ m := by
    intro c hc
    obtain ⟨s, hs, h⟩ := (hC.2 c).1 hc
    have := fitz_bd hm hs
    omega
  have h0 : (0 : Int) ∈ C := (hC.2 0).2 ⟨⟨0, m - 1, z⟩, by simp [fitz], .inl rfl⟩
  have h1 : m ∈ C := (hC.2 m).2 ⟨⟨0, m - 1, z⟩, by simp [fitz], .inr (by dsimp only; omega)⟩
  obtain ⟨i, hi, ei⟩ := List.getElem_of_mem h0
  obtain ⟨j, hj, ej⟩ := List.getElem_of_mem h1
  have e1 : cAt C i = 0 := by simp [cAt, List.getD, hi, ei]
  have e2 : cAt C j = m := by simp [cAt, List.getD, hj, ej]
  have hij : i ≠ j := by rintro rfl; omega
  have hl : 2 ≤ C.length := by omega
  have a := cAt_le hC.1 (Nat.zero_le i) hi
  have b := cAt_le hC.1 (show j ≤ C.length - 1 by omega) (by omega)
  have c := hb _ (cAt_mem (show 0 < C.length by omega))
  have d := hb _ (cAt_mem (show C.length - 1 < C.length by omega))
  exact ⟨hl, by omega, by omega⟩
end
end Go.Proofs.Ytpbdamjpjpchiaa
